/-
  Two disks side by side: the file's and the reference's, no block of one the other's.
-/
import Derived.Test.YtlcilbbgfilefaaRefNew
namespace Go.Proofs.Ytlcilbbgfilefaa
open Go.RowKit

/-- What fell falls no further. -/
theorem fallen_again (m n : Int) (f g : Fm) (h : fallen n f = some g) : fallen m g = some g := by
  unfold fallen at h
  split at h
  · have h := Option.some.inj h
    subst h
    have h0 : mStay m ⟨f.name, mStay n f, (mStay n f).length, true⟩ = mStay n f := by
      show (mStay n f).take ((mStay n f).length + _) = _
      exact List.take_of_length_le (by omega)
    unfold fallen
    rw [if_pos (.inr rfl), h0]
  · cases h

theorem mFall_twice (m n : Int) (M : List Fm) : mFall m (mFall n M) = mFall n M := by
  induction M with
  | nil => rfl
  | cons f M ih =>
    unfold mFall at ih ⊢
    rw [List.filterMap_cons]
    cases hf : fallen n f with
    | none => simpa [hf] using ih
    | some g => simp only [List.filterMap_cons, fallen_again m n f g hf, ih]

/-- A disk of the file's and one of the reference's; their blocks are of L, or new since wq; all others stay. -/
def Two (L : List Nat) (wq w : World) (d r room : Nat) (M N : List Fm) : Prop := Turn L wq w ∧ ∃ l k, DiskM w d room l M ∧ RefM w r room k N ∧ (∀ i ∈ l, (i ∈ L ∨ wq.heap.size ≤ i) ∧ i ∉ k) ∧ (∀ i ∈ k, i ∈ L ∨ wq.heap.size ≤ i)

theorem Two.nodup {L : List Nat} {wq w : World} {d r room : Nat} {M N : List Fm} (h : Two L wq w d r room M N) : (M.map Fm.name).Nodup := by
  obtain ⟨_, l, k, hd, _⟩ := h
  exact hd.nodup

theorem Two.total {L : List Nat} {wq w : World} {d r room : Nat} {M N : List Fm} (h : Two L wq w d r room M N) : tot M ≤ room ∧ room ≤ 1048576 := by
  obtain ⟨_, l, k, hd, _⟩ := h
  exact hd.total

theorem Two.old {L : List Nat} {wq w : World} {d r room : Nat} {M N : List Fm} (h : Two L wq w d r room M N) : Turn L wq w := h.1

theorem Two.sl {L : List Nat} {wq w : World} {d r room : Nat} {M N : List Fm} (h : Two L wq w d r room M N) {ao : Option Addr} {c : Nat} {l : List UInt8} (hs : Sl wq ao c l) (hL : ∀ A, ao = some A → l ≠ [] → A.block ∉ L) : Sl w ao c l := hs.turn h.1 hL

theorem two_d {L : List Nat} {wq w w' : World} {d r room : Nat} {l k l' : List Nat} {M' N : List Fm} (h1 : Turn L wq w) (hr : RefM w r room k N) (hl : ∀ i ∈ l, (i ∈ L ∨ wq.heap.size ≤ i) ∧ i ∉ k) (hk : ∀ i ∈ k, i ∈ L ∨ wq.heap.size ≤ i)
    (ht : Turn l w w') (hd' : DiskM w' d room l' M') (hl' : ∀ i ∈ l', i ∈ l ∨ w.heap.size ≤ i) : Two L wq w' d r room M' N := by
  refine ⟨h1.trans ht (fun i hi => (hl i hi).1), l', k, hd', hr.turn ht (fun i hi hm => (hl i hm).2 hi), ?_, hk⟩
  intro i hi
  rcases hl' i hi with h2 | h2
  · exact hl i h2
  · refine ⟨.inr (Nat.le_trans h1.size h2), fun hm => ?_⟩
    have := hr.lt i hm
    omega

theorem two_r {L : List Nat} {wq w w' : World} {d r room : Nat} {l k k' : List Nat} {M N' : List Fm} (h1 : Turn L wq w) (hd : DiskM w d room l M) (hl : ∀ i ∈ l, (i ∈ L ∨ wq.heap.size ≤ i) ∧ i ∉ k) (hk : ∀ i ∈ k, i ∈ L ∨ wq.heap.size ≤ i)
    (ht : Turn k w w') (hr' : RefM w' r room k' N') (hk' : ∀ i ∈ k', i ∈ k ∨ w.heap.size ≤ i) : Two L wq w' d r room M N' := by
  refine ⟨h1.trans ht hk, l, k', hd.turn ht (fun i hi => (hl i hi).2), hr', ?_, ?_⟩
  · intro i hi
    refine ⟨(hl i hi).1, fun hm => ?_⟩
    rcases hk' i hm with h2 | h2
    · exact (hl i hi).2 h2
    · have := hd.lt i hi
      omega
  · intro i hi
    rcases hk' i hi with h2 | h2
    · exact hk i h2
    · exact .inr (Nat.le_trans h1.size h2)

theorem Two.turn {L : List Nat} {wq w w' : World} {d r room : Nat} {M N : List Fm} (h : Two L wq w d r room M N) (ht : Turn [] w w') : Two L wq w' d r room M N := by
  obtain ⟨h1, l, k, hd, hr, hl, hk⟩ := h
  exact two_d h1 hr hl hk (ht.mono (by simp)) (hd.turn ht (by simp)) (fun i hi => .inl hi)

/-! ### The file's calls -/
theorem two_append_d {L : List Nat} {wq w : World} {d r room : Nat} {M N : List Fm} {n bs : List UInt8} {ao : Option Addr} {c : Nat} (h : Two L wq w d r room M N) (hn : n.length ≤ 9223372036854775807) (hs : Sl wq ao c bs) (hL : ∀ A, ao = some A → bs ≠ [] → A.block ∉ L) :
    Calls Try.prog 21 #[.pointer (some ⟨d, 0, none⟩), .string ⟨n.toArray⟩, .slice ao bs.length c] w fun e w' => e = .returned (.int .i64 (appE room M n bs)) ∧ Two L wq w' d r room (appM room M n bs) N := by
  have hsw := h.sl hs hL
  obtain ⟨h1, l, k, hd, hr, hl, hk⟩ := h
  refine (append_fn w hd hn hsw (fun x hx hne hm => ?_)).mono ?_
  · subst hx
    have := hs.lt hne
    rcases (hl _ hm).1 with h2 | h2
    · exact hL _ rfl hne h2
    · omega
  · rintro e w' ⟨rfl, ht, l', hd', hl'⟩
    exact ⟨rfl, two_d h1 hr hl hk ht hd' hl'⟩

theorem two_sync_d {L : List Nat} {wq w : World} {d r room : Nat} {M N : List Fm} {n : List UInt8} (h : Two L wq w d r room M N) (hn : n.length ≤ 9223372036854775807) :
    Calls Try.prog 29 #[.pointer (some ⟨d, 0, none⟩), .string ⟨n.toArray⟩] w fun e w' => e = .returned (.int .i64 (synE M n)) ∧ Two L wq w' d r room (synM M n) N := by
  obtain ⟨h1, l, k, hd, hr, hl, hk⟩ := h
  refine (sync_fn w hd hn).mono ?_
  rintro e w' ⟨rfl, ht, hd'⟩
  exact ⟨rfl, two_d h1 hr hl hk ht hd' (fun i hi => .inl hi)⟩

theorem two_delete_d {L : List Nat} {wq w : World} {d r room : Nat} {M N : List Fm} {n : List UInt8} (h : Two L wq w d r room M N) (hn : n.length ≤ 9223372036854775807) :
    Calls Try.prog 30 #[.pointer (some ⟨d, 0, none⟩), .string ⟨n.toArray⟩] w fun e w' => e = .returned (.int .i64 (synE M n)) ∧ Two L wq w' d r room (mDel n M) N := by
  obtain ⟨h1, l, k, hd, hr, hl, hk⟩ := h
  refine (delete_fn w hd hn).mono ?_
  rintro e w' ⟨rfl, ht, l', hd', hl'⟩
  exact ⟨rfl, two_d h1 hr hl hk ht hd' (fun i hi => .inl (hl' i hi))⟩

theorem two_rename_d {L : List Nat} {wq w : World} {d r room : Nat} {M N : List Fm} {s n : List UInt8} (h : Two L wq w d r room M N) (hs : s.length ≤ 9223372036854775807) (hn : n.length ≤ 9223372036854775807) :
    Calls Try.prog 25 #[.pointer (some ⟨d, 0, none⟩), .string ⟨s.toArray⟩, .string ⟨n.toArray⟩] w fun e w' => e = .returned (.int .i64 (renE M s n)) ∧ Two L wq w' d r room (renM M s n) N := by
  obtain ⟨h1, l, k, hd, hr, hl, hk⟩ := h
  refine (rename_fn w hd hs hn).mono ?_
  rintro e w' ⟨rfl, ht, l', hd', hl'⟩
  exact ⟨rfl, two_d h1 hr hl hk ht hd' (fun i hi => .inl (hl' i hi))⟩

/-! ### The reference's calls -/
theorem two_append_r {L : List Nat} {wq w : World} {d r room : Nat} {M N : List Fm} {n bs : List UInt8} {ao : Option Addr} {c : Nat} (h : Two L wq w d r room M N) (hnd : (N.map Fm.name).Nodup) (hfew : N.length ≤ 400000) (hn : n.length ≤ 9223372036854775807) (hs : Sl wq ao c bs) (hL : ∀ A, ao = some A → bs ≠ [] → A.block ∉ L) :
    Calls Try.prog 24 #[.pointer (some ⟨r, 0, none⟩), .string ⟨n.toArray⟩, .slice ao bs.length c] w fun e w' => e = .returned (.int .i64 (appE room N n bs)) ∧ Two L wq w' d r room M (appM room N n bs) := by
  have hsw := h.sl hs hL
  have hroom := h.total.2
  obtain ⟨h1, l, k, hd, hr, hl, hk⟩ := h
  refine (refAppend_fn w hr hnd hfew hroom hn hsw (fun x hx hne hm => ?_)).mono ?_
  · subst hx
    have := hs.lt hne
    rcases hk _ hm with h2 | h2
    · exact hL _ rfl hne h2
    · omega
  · rintro e w' ⟨rfl, ht, k', hr', hk'⟩
    exact ⟨rfl, two_r h1 hd hl hk ht hr' hk'⟩

theorem two_sync_r {L : List Nat} {wq w : World} {d r room : Nat} {M N : List Fm} {n : List UInt8} (h : Two L wq w d r room M N) (hnd : (N.map Fm.name).Nodup) :
    Calls Try.prog 34 #[.pointer (some ⟨r, 0, none⟩), .string ⟨n.toArray⟩] w fun e w' => e = .returned (.int .i64 (synE N n)) ∧ Two L wq w' d r room M (synM N n) := by
  obtain ⟨h1, l, k, hd, hr, hl, hk⟩ := h
  refine (refSync_fn w hr hnd).mono ?_
  rintro e w' ⟨rfl, ht, hr'⟩
  exact ⟨rfl, two_r h1 hd hl hk ht hr' (fun i hi => .inl hi)⟩

theorem two_delete_r {L : List Nat} {wq w : World} {d r room : Nat} {M N : List Fm} {n : List UInt8} (h : Two L wq w d r room M N) (hnd : (N.map Fm.name).Nodup) (hfew : N.length ≤ 400000) :
    Calls Try.prog 35 #[.pointer (some ⟨r, 0, none⟩), .string ⟨n.toArray⟩] w fun e w' => e = .returned (.int .i64 (synE N n)) ∧ Two L wq w' d r room M (mDel n N) := by
  obtain ⟨h1, l, k, hd, hr, hl, hk⟩ := h
  refine (refDelete_fn w hr hnd hfew).mono ?_
  rintro e w' ⟨rfl, ht, k', hr', hk'⟩
  exact ⟨rfl, two_r h1 hd hl hk ht hr' hk'⟩

theorem two_rename_r {L : List Nat} {wq w : World} {d r room : Nat} {M N : List Fm} {s n : List UInt8} (h : Two L wq w d r room M N) (hnd : (N.map Fm.name).Nodup) (hfew : N.length ≤ 400000) (hn : n.length ≤ 9223372036854775807) :
    Calls Try.prog 26 #[.pointer (some ⟨r, 0, none⟩), .string ⟨s.toArray⟩, .string ⟨n.toArray⟩] w fun e w' => e = .returned (.int .i64 (renE N s n)) ∧ Two L wq w' d r room M (renM N s n) := by
  obtain ⟨h1, l, k, hd, hr, hl, hk⟩ := h
  refine (refRename_fn w hr hnd hfew hn).mono ?_
  rintro e w' ⟨rfl, ht, k', hr', hk'⟩
  exact ⟨rfl, two_r h1 hd hl hk ht hr' hk'⟩

/-! ### Both anew -/
theorem two_new {wq w w' : World} {d r room : Nat} (h : Dk wq w d room []) (hr : RefM w' r room [w.heap.size] []) (hb : Below w.heap.size w w') : Two [] wq w' d r room [] [] := by
  obtain ⟨h1, l, h2, h3⟩ := h
  have hl := h2.lt
  refine ⟨(Turn.of_below h1 []).trans (Turn.of_below hb []) (by simp), l, [w.heap.size], h2.turn (Turn.of_below hb []) (by simp), hr, ?_, ?_⟩
  · intro i hi
    refine ⟨.inr (h3 i hi), fun hm => ?_⟩
    have := hl i hi
    simp at hm
    omega
  · intro i hi
    simp at hi
    rw [hi]
    exact .inr h1.size

/-- Begun anew at a later world in which nothing of theirs has turned. -/
theorem Two.rebase {L : List Nat} {wq w w5 : World} {d r room : Nat} {M N : List Fm} (h : Two L wq w d r room M N) (ht : Turn [] w w5) :
    ∃ J, (∀ i ∈ J, i < w.heap.size ∧ (i ∈ L ∨ wq.heap.size ≤ i)) ∧ Turn L wq w5 ∧ Two J w5 w5 d r room M N := by
  obtain ⟨h1, l, k, hd, hr, hl, hk⟩ := h
  refine ⟨l ++ k, ?_, h1.trans ht (by simp), Turn.refl _ _, l, k, hd.turn ht (by simp), hr.turn ht (by simp), ?_, ?_⟩
  · intro i hi
    rcases List.mem_append.1 hi with hi | hi
    · exact ⟨hd.lt i hi, (hl i hi).1⟩
    · exact ⟨hr.lt i hi, hk i hi⟩
  · intro i hi
    exact ⟨.inl (by simp [hi]), (hl i hi).2⟩
  · intro i hi
    exact .inl (by simp [hi])

theorem Two.back {L J : List Nat} {wq w5 w' : World} {d r room : Nat} {M N : List Fm} (h : Two J w5 w' d r room M N) (ht : Turn L wq w5) (hJ : ∀ i ∈ J, i ∈ L ∨ wq.heap.size ≤ i) : Two L wq w' d r room M N := by
  obtain ⟨h1, l, k, hd, hr, hl, hk⟩ := h
  refine ⟨ht.trans h1 hJ, l, k, hd, hr, fun i hi => ⟨?_, (hl i hi).2⟩, fun i hi => ?_⟩
  · rcases (hl i hi).1 with h2 | h2
    · exact hJ i h2
    · exact .inr (Nat.le_trans ht.size h2)
  · rcases hk i hi with h2 | h2
    · exact hJ i h2
    · exact .inr (Nat.le_trans ht.size h2)

/-- Where one block that is none of theirs has turned. -/
theorem Two.far {J : List Nat} {x1 x3 : World} {d r room F : Nat} {M N : List Fm} (h : Two J x1 x1 d r room M N) (ht : Turn [F] x1 x3) (hF : F ∉ J) : Two J x3 x3 d r room M N := by
  obtain ⟨_, l, k, hd, hr, hl, hk⟩ := h
  have hlJ : ∀ i ∈ l, i ∈ J := fun i hi => by
    rcases (hl i hi).1 with h2 | h2
    · exact h2
    · have := hd.lt i hi
      omega
  have hkJ : ∀ i ∈ k, i ∈ J := fun i hi => by
    rcases hk i hi with h2 | h2
    · exact h2
    · have := hr.lt i hi
      omega
  refine ⟨Turn.refl _ _, l, k, hd.turn ht ?_, hr.turn ht ?_, fun i hi => ⟨.inl (hlJ i hi), (hl i hi).2⟩, fun i hi => .inl (hkJ i hi)⟩
  · intro i hi hm
    have : i = F := by simpa using hm
    exact hF (this ▸ hlJ i hi)
  · intro i hi hm
    have : i = F := by simpa using hm
    exact hF (this ▸ hkJ i hi)

end Go.Proofs.Ytlcilbbgfilefaa
