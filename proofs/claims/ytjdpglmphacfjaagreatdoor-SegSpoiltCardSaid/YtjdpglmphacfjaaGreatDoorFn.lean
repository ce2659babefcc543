/-
  The disk's calls, each by one function of the files: what it answers, what is there then.
-/
import Derived.Test.YtjdpglmphacfjaaGreatDoorFileOwnWalk
namespace Go.Proofs.YtjdpglmphacfjaaGreatDoor
open Go.RowKit

def hasF (M : List Fm) (n : List UInt8) : Bool := M.any fun f => f.name == n
def mUp (n : List UInt8) (g : Fm → Fm) (M : List Fm) : List Fm := M.map fun f => if f.name == n then g f else f

theorem hasF_split {M : List Fm} {n : List UInt8} (h : hasF M n = true) : ∃ A g B, M = A ++ g :: B ∧ g.name = n := by
  obtain ⟨f, hf, he⟩ := List.any_eq_true.1 h
  obtain ⟨A, B, rfl⟩ := List.append_of_mem hf
  exact ⟨A, f, B, rfl, by simpa using he⟩

theorem hasF_not {M : List Fm} {n : List UInt8} (h : hasF M n = false) : n ∉ M.map Fm.name := by
  intro hm
  obtain ⟨f, hf, rfl⟩ := List.mem_map.1 hm
  have := (List.any_eq_false.1 h) f hf
  simp at this

theorem mUp_split {A B : List Fm} {f : Fm} (g : Fm → Fm) (hnd : ((A ++ f :: B).map Fm.name).Nodup) : mUp f.name g (A ++ f :: B) = A ++ g f :: B := by
  have h1 : ∀ x ∈ A ++ B, x.name ≠ f.name := by
    intro x hx
    simp [List.nodup_append] at hnd
    rcases List.mem_append.1 hx with hx | hx
    · exact (hnd.2.2 x hx).1
    · exact fun e2 => hnd.2.1.1 x hx e2
  have hid : ∀ (L : List Fm), (∀ x ∈ L, x.name ≠ f.name) → (L.map fun x => if x.name == f.name then g x else x) = L := by
    intro L hL
    induction L with
    | nil => rfl
    | cons a L ih => rw [List.map_cons, if_neg (by simpa using hL a (by simp)), ih (fun x hx => hL x (by simp [hx]))]
  unfold mUp
  rw [List.map_append, List.map_cons, hid A (fun x hx => h1 x (by simp [hx])), hid B (fun x hx => h1 x (by simp [hx]))]
  simp

theorem mUp_not {M : List Fm} {n : List UInt8} (g : Fm → Fm) (h : hasF M n = false) : mUp n g M = M := by
  have h1 := List.any_eq_false.1 h
  unfold mUp
  have : ∀ L : List Fm, (∀ x ∈ L, ¬ (x.name == n) = true) → (L.map fun f => if f.name == n then g f else f) = L := by
    intro L hL
    induction L with
    | nil => rfl
    | cons a L ih =>
      rw [List.map_cons, if_neg (hL a (by simp)), ih (fun x hx => hL x (by simp [hx]))]
  exact this M h1

/-! ### Append -/
def mApp (n bs : List UInt8) (M : List Fm) : List Fm := if hasF M n = true then mUp n (fun f => longer f bs) M else M ++ [⟨n, bs, 0, false⟩]
def appE (room : Nat) (M : List Fm) (n bs : List UInt8) : Int := if okName n = true then (if room < tot M + bs.length then 5 else 0) else 1
def appM (room : Nat) (M : List Fm) (n bs : List UInt8) : List Fm := if okName n = true then (if room < tot M + bs.length then M else mApp n bs M) else M

theorem append_fn {b room : Nat} {l : List Nat} {M : List Fm} {n bs : List UInt8} {ao : Option Addr} {c : Nat} (w : World) (h : DiskM w b room l M) (hn : n.length ≤ 9223372036854775807) (hs : Sl w ao c bs) (hsl : ∀ x, ao = some x → bs ≠ [] → x.block ∉ l) :
    Calls Tryz.prog 20 #[.pointer (some ⟨b, 0, none⟩), .string ⟨n.toArray⟩, .slice ao bs.length c] w fun e w' =>
      e = .returned (.int .i64 (appE room M n bs)) ∧ Turn l w w' ∧ ∃ l', DiskM w' b room l' (appM room M n bs) ∧ ∀ i ∈ l', i ∈ l ∨ w.heap.size ≤ i := by
  unfold appE appM
  by_cases hok : okName n = true
  · rw [if_pos hok, if_pos hok]
    by_cases hr : room < tot M + bs.length
    · rw [if_pos hr, if_pos hr]
      refine (append_full w h hok hr).mono ?_
      rintro e w' ⟨rfl, ht⟩
      exact ⟨rfl, ht.mono (by simp), l, h.turn ht (by simp), fun i hi => .inl hi⟩
    · rw [if_neg hr, if_neg hr]
      unfold mApp
      by_cases hh : hasF M n = true
      · rw [if_pos hh]
        obtain ⟨A, g, B, rfl, rfl⟩ := hasF_split hh
        rw [mUp_split _ h.nodup]
        exact append_any w h (.inl ⟨rfl, rfl⟩) hok hs hsl (by omega)
      · rw [if_neg hh]
        exact append_any w h (.inr ⟨rfl, rfl, rfl, hasF_not (by simpa using hh)⟩) hok hs hsl (by omega)
  · rw [if_neg hok, if_neg hok]
    refine (append_form w hn (by simpa using hok)).mono ?_
    rintro e w' ⟨rfl, rfl⟩
    exact ⟨rfl, Turn.refl _ _, l, h, fun i hi => .inl hi⟩

/-! ### Sync -/
def synE (M : List Fm) (n : List UInt8) : Int := if hasF M n = true then 0 else 6
def synM (M : List Fm) (n : List UInt8) : List Fm := mUp n synced M

theorem sync_fn {b room : Nat} {l : List Nat} {M : List Fm} {n : List UInt8} (w : World) (h : DiskM w b room l M) (hn : n.length ≤ 9223372036854775807) :
    Calls Tryz.prog 34 #[.pointer (some ⟨b, 0, none⟩), .string ⟨n.toArray⟩] w fun e w' =>
      e = .returned (.int .i64 (synE M n)) ∧ Turn l w w' ∧ DiskM w' b room l (synM M n) := by
  unfold synE synM
  by_cases hh : hasF M n = true
  · rw [if_pos hh]
    obtain ⟨A, g, B, rfl, rfl⟩ := hasF_split hh
    rw [mUp_split _ h.nodup]
    refine (sync_some w h).mono ?_
    rintro e w' ⟨rfl, hd, ht⟩
    exact ⟨rfl, ht, hd⟩
  · rw [if_neg hh, mUp_not _ (by simpa using hh)]
    refine (sync_none w h (hasF_not (by simpa using hh)) hn).mono ?_
    rintro e w' ⟨rfl, rfl⟩
    exact ⟨rfl, Turn.refl _ _, h⟩

/-! ### Delete -/
theorem delete_fn {b room : Nat} {l : List Nat} {M : List Fm} {n : List UInt8} (w : World) (h : DiskM w b room l M) (hn : n.length ≤ 9223372036854775807) :
    Calls Tryz.prog 28 #[.pointer (some ⟨b, 0, none⟩), .string ⟨n.toArray⟩] w fun e w' =>
      e = .returned (.int .i64 (synE M n)) ∧ Turn l w w' ∧ ∃ l', DiskM w' b room l' (mDel n M) ∧ ∀ i ∈ l', i ∈ l := by
  unfold synE
  by_cases hh : hasF M n = true
  · rw [if_pos hh]
    obtain ⟨A, g, B, rfl, rfl⟩ := hasF_split hh
    rw [mDel_split h.nodup]
    exact delete_some w h
  · rw [if_neg hh, mDel_not (hasF_not (by simpa using hh))]
    refine (delete_none w h (hasF_not (by simpa using hh)) hn).mono ?_
    rintro e w' ⟨rfl, rfl⟩
    exact ⟨rfl, Turn.refl _ _, l, h, fun i hi => hi⟩

/-! ### Rename -/
def renE (M : List Fm) (s n : List UInt8) : Int := if okName n = true then (if hasF M s = true then 0 else 6) else 1
def renM (M : List Fm) (s n : List UInt8) : List Fm := if okName n = true ∧ hasF M s = true ∧ s ≠ n then mUp s (fun f => renamed f n) (mDel n M) else M

theorem mDel_nodup {M : List Fm} (n : List UInt8) (h : (M.map Fm.name).Nodup) : ((mDel n M).map Fm.name).Nodup := h.sublist (List.filter_sublist.map _)

theorem mDel_has {M : List Fm} {s n : List UInt8} (h : hasF M s = true) (hne : s ≠ n) : hasF (mDel n M) s = true := by
  obtain ⟨f, hf, he⟩ := List.any_eq_true.1 h
  refine List.any_eq_true.2 ⟨f, List.mem_filter.2 ⟨hf, ?_⟩, he⟩
  have : f.name = s := by simpa using he
  simpa [this] using hne

theorem rename_fn {b room : Nat} {l : List Nat} {M : List Fm} {s n : List UInt8} (w : World) (h : DiskM w b room l M) (hs : s.length ≤ 9223372036854775807) (hn : n.length ≤ 9223372036854775807) :
    Calls Tryz.prog 61 #[.pointer (some ⟨b, 0, none⟩), .string ⟨s.toArray⟩, .string ⟨n.toArray⟩] w fun e w' =>
      e = .returned (.int .i64 (renE M s n)) ∧ Turn l w w' ∧ ∃ l', DiskM w' b room l' (renM M s n) ∧ ∀ i ∈ l', i ∈ l := by
  unfold renE renM
  by_cases hok : okName n = true
  · rw [if_pos hok]
    by_cases hh : hasF M s = true
    · rw [if_pos hh]
      by_cases hne : s = n
      · rw [if_neg (by simp [hne])]
        subst hne
        obtain ⟨A, g, B, rfl, rfl⟩ := hasF_split hh
        refine (rename_same w h).mono ?_
        rintro e w' ⟨rfl, rfl⟩
        exact ⟨rfl, Turn.refl _ _, l, h, fun i hi => hi⟩
      · rw [if_pos ⟨hok, hh, hne⟩]
        obtain ⟨A, g, B, hM, rfl⟩ := hasF_split (mDel_has hh hne)
        have hnd := mDel_nodup n h.nodup
        rw [hM] at hnd ⊢
        rw [mUp_split _ hnd]
        exact rename_some w h hok hM
    · rw [if_neg hh, if_neg (by simp [hh])]
      refine (rename_none w h hok (hasF_not (by simpa using hh)) hs).mono ?_
      rintro e w' ⟨rfl, rfl⟩
      exact ⟨rfl, Turn.refl _ _, l, h, fun i hi => hi⟩
  · rw [if_neg hok, if_neg (by simp [hok])]
    refine (rename_form w hn (by simpa using hok)).mono ?_
    rintro e w' ⟨rfl, rfl⟩
    exact ⟨rfl, Turn.refl _ _, l, h, fun i hi => hi⟩

theorem dk_sync_fn {wq w : World} {b room : Nat} {M : List Fm} {n : List UInt8} (h : Dk wq w b room M) (hn : n.length ≤ 9223372036854775807) :
    Calls Tryz.prog 34 #[.pointer (some ⟨b, 0, none⟩), .string ⟨n.toArray⟩] w fun e w' => e = .returned (.int .i64 (synE M n)) ∧ Dk wq w' b room (synM M n) := by
  obtain ⟨h1, l, h2, h3⟩ := h
  refine (sync_fn w h2 hn).mono ?_
  rintro e w' ⟨rfl, ht, hd⟩
  exact ⟨rfl, h1.trans (ht.below h3 h1.size), l, hd, h3⟩

theorem dk_delete_fn {wq w : World} {b room : Nat} {M : List Fm} {n : List UInt8} (h : Dk wq w b room M) (hn : n.length ≤ 9223372036854775807) :
    Calls Tryz.prog 28 #[.pointer (some ⟨b, 0, none⟩), .string ⟨n.toArray⟩] w fun e w' => e = .returned (.int .i64 (synE M n)) ∧ Dk wq w' b room (mDel n M) := by
  obtain ⟨h1, l, h2, h3⟩ := h
  refine (delete_fn w h2 hn).mono ?_
  rintro e w' ⟨rfl, ht, l', hd, hl⟩
  exact ⟨rfl, h1.trans (ht.below h3 h1.size), l', hd, fun i hi => h3 i (hl i hi)⟩

theorem dk_rename_fn {wq w : World} {b room : Nat} {M : List Fm} {s n : List UInt8} (h : Dk wq w b room M) (hs : s.length ≤ 9223372036854775807) (hn : n.length ≤ 9223372036854775807) :
    Calls Tryz.prog 61 #[.pointer (some ⟨b, 0, none⟩), .string ⟨s.toArray⟩, .string ⟨n.toArray⟩] w fun e w' => e = .returned (.int .i64 (renE M s n)) ∧ Dk wq w' b room (renM M s n) := by
  obtain ⟨h1, l, h2, h3⟩ := h
  refine (rename_fn w h2 hs hn).mono ?_
  rintro e w' ⟨rfl, ht, l', hd, hl⟩
  exact ⟨rfl, h1.trans (ht.below h3 h1.size), l', hd, fun i hi => h3 i (hl i hi)⟩

/-! ### What stays, and how many -/
theorem mUp_mem {M : List Fm} {f : Fm} {n : List UInt8} (g : Fm → Fm) (h : f ∈ M) (hne : f.name ≠ n) : f ∈ mUp n g M :=
  List.mem_map.2 ⟨f, h, by rw [if_neg (by simpa using hne)]⟩
theorem mUp_length (n : List UInt8) (g : Fm → Fm) (M : List Fm) : (mUp n g M).length = M.length := by simp [mUp]
theorem mDel_mem {M : List Fm} {f : Fm} {n : List UInt8} (h : f ∈ M) (hne : f.name ≠ n) : f ∈ mDel n M := List.mem_filter.2 ⟨h, by simpa using hne⟩
theorem mDel_length (n : List UInt8) (M : List Fm) : (mDel n M).length ≤ M.length := List.length_filter_le _ _
theorem mApp_mem {M : List Fm} {f : Fm} {n : List UInt8} (bs : List UInt8) (h : f ∈ M) (hne : f.name ≠ n) : f ∈ mApp n bs M := by
  unfold mApp
  split
  · exact mUp_mem _ h hne
  · simp [h]
theorem mApp_length (n bs : List UInt8) (M : List Fm) : (mApp n bs M).length ≤ M.length + 1 := by
  unfold mApp
  split
  · rw [mUp_length]; omega
  · simp
theorem appM_mem {M : List Fm} {f : Fm} {n : List UInt8} (room : Nat) (bs : List UInt8) (h : f ∈ M) (hne : f.name ≠ n) : f ∈ appM room M n bs := by
  unfold appM
  split
  · split
    · exact h
    · exact mApp_mem _ h hne
  · exact h
theorem appM_length (room : Nat) (n bs : List UInt8) (M : List Fm) : (appM room M n bs).length ≤ M.length + 1 := by
  unfold appM
  split
  · split
    · omega
    · exact mApp_length _ _ _
  · omega
theorem renM_mem {M : List Fm} {f : Fm} {s n : List UInt8} (h : f ∈ M) (h1 : f.name ≠ s) (h2 : f.name ≠ n) : f ∈ renM M s n := by
  unfold renM
  split
  · exact mUp_mem _ (mDel_mem h h2) h1
  · exact h
theorem renM_length (s n : List UInt8) (M : List Fm) : (renM M s n).length ≤ M.length := by
  unfold renM
  split
  · rw [mUp_length]; exact mDel_length _ _
  · omega
theorem mFall_length (n : Int) (M : List Fm) : (mFall n M).length ≤ M.length := List.length_filterMap_le _ _
theorem mFall_mem {n : Int} {M : List Fm} {f : Fm} (h : f ∈ M) (hs : f.sure = f.b.length) (hn : f.named = true) : f ∈ mFall n M := by
  refine List.mem_filterMap.2 ⟨f, h, ?_⟩
  have h0 : mStay n f = f.b := by unfold mStay; rw [hs]; exact List.take_of_length_le (by omega)
  unfold fallen
  rw [if_pos (.inr hn), h0, ← hs]
  obtain ⟨_, _, _, _⟩ := f
  simp at hn
  subst hn
  rfl

end Go.Proofs.YtjdpglmphacfjaaGreatDoor
