/-
  Add from anywhere: a log that was opened long ago, a text that lies in a block of its own; a disk with one segment alone.
-/
import Derived.Test.YtjdpglmphacfjaaGreatDoorSegOne
namespace Go.Proofs.YtjdpglmphacfjaaGreatDoor
open Go.RowKit

/-- Add, where the text's block is none of the log's. -/
theorem add_at {w0 w1 w : World} {lb d room num : Nat} {T : List (List UInt8)} {M : List Fm} (h : Lg [] w0 w1 lb d room num T M) (t : Turn [] w1 w) (ao : Option Addr) (c : Nat) (b : List UInt8) (hb : okF b = true) (hs : Sl w ao c b)
    (hf : ∀ A, ao = some A → A.block < w0.heap.size ∨ w1.heap.size ≤ A.block) (hto : addTo M num ≤ 999) (hT : T.length < 1000000) :
    Calls Tryz.prog 10 #[.pointer (some ⟨lb, 0, none⟩), .slice ao b.length c] w fun e w' => e = .returned (.int .i64 (appE room (addM M num) (segName (addTo M num)) (frB b))) ∧
      (appE room (addM M num) (segName (addTo M num)) (frB b) = 0 → Lg [] w0 w' lb d room (addTo M num) (T ++ [b]) (appM room (addM M num) (segName (addTo M num)) (frB b))) ∧
      (appE room (addM M num) (segName (addTo M num)) (frB b) ≠ 0 → Lg [] w0 w' lb d room num T (appM room (addM M num) (segName (addTo M num)) (frB b))) := by
  have H := h.rebase t
  have h0 := (h.turn t).1
  have hL : ∀ A, ao = some A → b ≠ [] → A.block ∉ mine [] w0 w1 := by
    intro A hA _ hm
    have h2 := mem_mine.1 hm
    simp only [List.not_mem_nil, false_or] at h2
    rcases hf A hA with h3 | h3 <;> omega
  refine (add_calls H ao c b hb hs hL hto hT).mono ?_
  rintro e w' ⟨rfl, h1, h2⟩
  exact ⟨rfl, fun he => (h1 he).back h0 h.2.1, fun he => (h2 he).back h0 h.2.1⟩

/-- A log whose blocks are just these. -/
def LgAt (L : List Nat) (w : World) (lb d room num : Nat) (T : List (List UInt8)) (M : List Fm) : Prop := Lg L w w lb d room num T M ∧ ∀ k ∈ L, k < w.heap.size

theorem Lg.start {w0 w : World} {lb d room num : Nat} {T : List (List UInt8)} {M : List Fm} (h : Lg [] w0 w lb d room num T M) : ∃ L, LgAt L w lb d room num T M ∧ ∀ k ∈ L, w0.heap.size ≤ k :=
  ⟨mine [] w0 w, ⟨h.rebase (Turn.refl [] w), fun _ hk => (mem_mine.1 hk).1⟩, fun _ hk => by simpa using (mem_mine.1 hk).2⟩

theorem LgAt.shift {L l : List Nat} {w w2 : World} {lb d room num : Nat} {T : List (List UInt8)} {M : List Fm} (h : LgAt L w lb d room num T M) (t : Turn l w w2) (hl : ∀ k ∈ l, k ∉ L) (htb : tabB ∉ l) : LgAt L w2 lb d room num T M := by
  obtain ⟨⟨h1, h2, h3, h4, h5, v, lD, hc, hd, hi, ht⟩, hlt⟩ := h
  have hof : ∀ k, (k ∈ L ∨ w.heap.size ≤ k) → k < w.heap.size → k ∈ L := fun k hk hk2 => by
    rcases hk with hk | hk
    · exact hk
    · omega
  have hlb : lb < w.heap.size := lt_of_heap hc
  refine ⟨⟨Turn.refl _ _, ⟨h2.1.turn t htb, h2.2⟩, .inl (hof lb h3 hlb), h4, h5, v, lD, t.heap hc (fun hm => hl lb hm (hof lb h3 hlb)), hd.turn t (fun k hk hm => hl k hm (hof k (hi k hk).1 (hd.lt k hk))), fun i hi' => ⟨.inl (hof i (hi i hi').1 (hd.lt i hi')), (hi i hi').2⟩, ?_⟩, fun k hk => Nat.lt_of_lt_of_le (hlt k hk) t.size⟩
  have ht2 := (ht.imp (Q := fun k => k ∈ L ∧ k ≠ lb ∧ k ∉ lD) (fun k hk hp => ⟨hof k hp.1 hk, hp.2⟩)).turn t (fun k hp hm => hl k hm hp.1)
  exact ht2.imp (fun k _ hp => ⟨.inl hp.1, hp.2⟩)

/-- Behind a call. -/
theorem Lg.next {L : List Nat} {w w2 : World} {lb d room num : Nat} {T : List (List UInt8)} {M : List Fm} (h : Lg L w w2 lb d room num T M) : ∃ L', LgAt L' w2 lb d room num T M ∧ ∀ k ∈ L', k ∈ L ∨ w.heap.size ≤ k :=
  ⟨mine L w w2, ⟨h.rebase (Turn.refl [] w2), fun _ hk => (mem_mine.1 hk).1⟩, fun _ hk => (mem_mine.1 hk).2⟩

/-- Append of bytes that are none of the disk's. -/
theorem dk_append_off {wq w0 w : World} {b room : Nat} {M : List Fm} {n bs : List UInt8} {ao : Option Addr} {c : Nat} (h : Dk wq w0 b room M) (hn : n.length ≤ 9223372036854775807) (ht : Turn [] w0 w) (hs : Sl w ao c bs) (ha : ∀ A, ao = some A → A.block < wq.heap.size ∨ w0.heap.size ≤ A.block) :
    Calls Tryz.prog 20 #[.pointer (some ⟨b, 0, none⟩), .string ⟨n.toArray⟩, .slice ao bs.length c] w fun e w' => e = .returned (.int .i64 (appE room M n bs)) ∧ Dk wq w' b room (appM room M n bs) := by
  obtain ⟨h1, l, h2, h3⟩ := h
  refine (append_fn w (h2.turn ht (by simp)) hn hs (fun x hx _ hm => ?_)).mono ?_
  · have h4 := h2.lt _ hm
    have h5 := h3 _ hm
    rcases ha x hx with h6 | h6 <;> omega
  · rintro e w' ⟨rfl, ht', l', hd, hl⟩
    refine ⟨rfl, (h1.trans (ht.belowAll.mono h1.size)).trans (ht'.below h3 (Nat.le_trans h1.size ht.size)), l', hd, fun i hi => ?_⟩
    rcases hl i hi with h | h
    · exact h3 i h
    · have := h1.size; have := ht.size; omega

theorem made_sl (w : World) (n : Nat) (hn : n ≤ 1000000) : Sl (w.alloc (.cells (madeCells #[.int .u8 0] n) 5)) (some ⟨w.heap.size, 0, none⟩) n (List.replicate n 0) := by
  refine .inr ⟨_, rfl, by simp, by unfold maxLen; omega, fun i hi => ?_⟩
  simp at hi
  rw [Addr.add_lit, Nat.zero_add, cell_of_row _ w.heap.size i _ _ (0, 0) (heap_alloc_new w _)]
  simp [madeCells, hi, Nat.mod_one]

/-- An empty disk, opened from the first segment on. -/
theorem open_empty (room : Nat) : openF room [] 0 = (0, [], []) ∧ openAt [] 0 = 0 := ⟨by kernel_rfl, by kernel_rfl⟩

/-- The first segment alone, with these texts; none: no file. -/
def oneM (T : List (List UInt8)) : List Fm := if T = [] then [] else [⟨segName 0, frs T, 0, false⟩]

theorem oneM_bytes (T : List (List UInt8)) : bytesOf (oneM T) (segName 0) = frs T := by
  unfold oneM bytesOf
  by_cases h : T = []
  · subst h; rfl
  · rw [if_neg h]
    simp

theorem oneM_has (T : List (List UInt8)) : hasF (oneM T) (segName 0) = !(T.isEmpty) := by
  unfold oneM hasF
  by_cases h : T = []
  · subst h; rfl
  · rw [if_neg h]
    cases T with
    | nil => exact absurd rfl h
    | cons a T => simp

theorem oneM_tot (T : List (List UInt8)) : tot (oneM T) = (frs T).length := by
  unfold oneM
  by_cases h : T = []
  · subst h; rfl
  · rw [if_neg h]
    simp [tot]

theorem oneM_to {T : List (List UInt8)} (h : (frs T).length < 2000) : addTo (oneM T) 0 = 0 ∧ addM (oneM T) 0 = oneM T := by
  unfold addTo addM
  rw [oneM_bytes, if_neg (by omega), if_neg (by omega)]
  exact ⟨rfl, rfl⟩

theorem oneM_app {room : Nat} {T : List (List UInt8)} {b : List UInt8} : appE room (oneM T) (segName 0) (frB b) = (if room < (frs T).length + (6 + b.length) then 5 else 0) ∧
    appM room (oneM T) (segName 0) (frB b) = (if room < (frs T).length + (6 + b.length) then oneM T else oneM (T ++ [b])) := by
  have hok : okName (segName 0) = true := by decide
  unfold appE appM
  rw [if_pos hok, if_pos hok, oneM_tot, frB_length]
  refine ⟨rfl, ?_⟩
  split
  · rfl
  · unfold oneM
    rw [if_neg (by simp : ¬ T ++ [b] = [])]
    by_cases h : T = []
    · subst h
      simp [mApp, hasF, frs_one]
    · rw [if_neg h]
      simp [mApp, hasF, mUp, longer, frs_append, frs_one]

end Go.Proofs.YtjdpglmphacfjaaGreatDoor
