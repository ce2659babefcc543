/-
  A disk that a law has made for itself: what was there when it was made stays; its calls, told so.
-/
import Derived.Test.YtjdpglmphacfjaaGreatDoorFileNoneWalk
import Derived.Test.YtjdpglmphacfjaaGreatDoorOpen
namespace Go.Proofs.YtjdpglmphacfjaaGreatDoor
open Go.RowKit

/-- A disk made at or behind wq: what lay in wq stays. -/
def Dk (wq w : World) (b room : Nat) (M : List Fm) : Prop := Below wq.heap.size wq w ∧ ∃ l, DiskM w b room l M ∧ ∀ i ∈ l, wq.heap.size ≤ i

theorem Dk.below {wq w w' : World} {b room : Nat} {M : List Fm} (h : Dk wq w b room M) (hb : Below w.heap.size w w') : Dk wq w' b room M := by
  obtain ⟨h1, l, h2, h3⟩ := h
  exact ⟨h1.trans (hb.mono h1.size), l, h2.belowAll hb, h3⟩

theorem Dk.turn {wq w w' : World} {b room : Nat} {M : List Fm} (h : Dk wq w b room M) (hb : Turn [] w w') : Dk wq w' b room M := h.below hb.belowAll

theorem Dk.old {wq w : World} {b room : Nat} {M : List Fm} (h : Dk wq w b room M) : Below wq.heap.size wq w := h.1

/-- A slice that lay there when the disk was made. -/
theorem Dk.sl {wq w : World} {b room : Nat} {M : List Fm} (h : Dk wq w b room M) {ao : Option Addr} {c : Nat} {l : List UInt8} (hs : Sl wq ao c l) : Sl w ao c l := hs.belowAll h.1

theorem dk_new (n : Int) (w : World) :
    Calls Tryz.prog 8 #[.int .i64 n] w fun e w' => e = .returned (.pointer (some ⟨w.heap.size, 0, none⟩)) ∧ Dk w w' w.heap.size (roomOf n) [] := by
  refine (new_calls n w).mono ?_
  rintro e w' ⟨rfl, hd, hb⟩
  exact ⟨rfl, hb, _, hd, by simp⟩

theorem dk_append {wq w : World} {b room : Nat} {M A B : List Fm} {n : List UInt8} {g : Fm} {ao : Option Addr} {c : Nat} {bs : List UInt8} (h : Dk wq w b room M) (ho : OpenTo M n A g B) (hok : okName n = true)
    (hs : Sl wq ao c bs) (hroom : tot M + bs.length ≤ room) :
    Calls Tryz.prog 20 #[.pointer (some ⟨b, 0, none⟩), .string ⟨n.toArray⟩, .slice ao bs.length c] w fun e w' => e = .returned (.int .i64 0) ∧ Dk wq w' b room (A ++ longer g bs :: B) := by
  have hs' := h.sl hs
  obtain ⟨h1, l, h2, h3⟩ := h
  refine (append_any w h2 ho hok hs' (fun x hx hne hm => ?_) hroom).mono ?_
  · subst hx
    have := hs.lt hne
    have := h3 _ hm
    omega
  · rintro e w' ⟨rfl, ht, l', hd, hl⟩
    refine ⟨rfl, h1.trans (ht.below h3 h1.size), l', hd, fun i hi => ?_⟩
    rcases hl i hi with h | h
    · exact h3 i h
    · exact Nat.le_trans h1.size h

theorem dk_append_nil {wq w : World} {b room : Nat} {M A B : List Fm} {n : List UInt8} {g : Fm} (h : Dk wq w b room M) (ho : OpenTo M n A g B) (hok : okName n = true) :
    Calls Tryz.prog 20 #[.pointer (some ⟨b, 0, none⟩), .string ⟨n.toArray⟩, .slice none 0 0] w fun e w' => e = .returned (.int .i64 0) ∧ Dk wq w' b room (A ++ longer g [] :: B) := by
  have hr : tot M + 0 ≤ room := by
    obtain ⟨_, l, h2, _⟩ := h
    exact h2.total.1
  exact dk_append (bs := []) h ho hok (Sl.nil _) hr

theorem dk_sync {wq w : World} {b room : Nat} {M1 M2 : List Fm} {f : Fm} (h : Dk wq w b room (M1 ++ f :: M2)) :
    Calls Tryz.prog 34 #[.pointer (some ⟨b, 0, none⟩), .string ⟨f.name.toArray⟩] w fun e w' => e = .returned (.int .i64 0) ∧ Dk wq w' b room (M1 ++ synced f :: M2) := by
  obtain ⟨h1, l, h2, h3⟩ := h
  refine (sync_some w h2).mono ?_
  rintro e w' ⟨rfl, hd, ht⟩
  exact ⟨rfl, h1.trans (ht.below h3 h1.size), l, hd, h3⟩

theorem dk_delete {wq w : World} {b room : Nat} {M1 M2 : List Fm} {f : Fm} (h : Dk wq w b room (M1 ++ f :: M2)) :
    Calls Tryz.prog 28 #[.pointer (some ⟨b, 0, none⟩), .string ⟨f.name.toArray⟩] w fun e w' => e = .returned (.int .i64 0) ∧ Dk wq w' b room (M1 ++ M2) := by
  obtain ⟨h1, l, h2, h3⟩ := h
  refine (delete_some w h2).mono ?_
  rintro e w' ⟨rfl, ht, l', hd, hl⟩
  exact ⟨rfl, h1.trans (ht.below h3 h1.size), l', hd, fun i hi => h3 i (hl i hi)⟩

theorem dk_delete_none {wq w : World} {b room : Nat} {M : List Fm} {n : List UInt8} (h : Dk wq w b room M) (hn : n ∉ M.map Fm.name) (hl : n.length ≤ 9223372036854775807) :
    Calls Tryz.prog 28 #[.pointer (some ⟨b, 0, none⟩), .string ⟨n.toArray⟩] w fun e w' => e = .returned (.int .i64 6) ∧ w = w' := by
  obtain ⟨h1, l, h2, h3⟩ := h
  exact delete_none w h2 hn hl

theorem dk_rename {wq w : World} {b room : Nat} {M A B : List Fm} {g : Fm} {n : List UInt8} (h : Dk wq w b room M) (hok : okName n = true) (hM : mDel n M = A ++ g :: B) :
    Calls Tryz.prog 61 #[.pointer (some ⟨b, 0, none⟩), .string ⟨g.name.toArray⟩, .string ⟨n.toArray⟩] w fun e w' => e = .returned (.int .i64 0) ∧ Dk wq w' b room (A ++ renamed g n :: B) := by
  obtain ⟨h1, l, h2, h3⟩ := h
  refine (rename_some w h2 hok hM).mono ?_
  rintro e w' ⟨rfl, ht, l', hd, hl⟩
  exact ⟨rfl, h1.trans (ht.below h3 h1.size), l', hd, fun i hi => h3 i (hl i hi)⟩

theorem dk_sure {wq w : World} {b room : Nat} {M1 M2 : List Fm} {f : Fm} (h : Dk wq w b room (M1 ++ f :: M2)) :
    Calls Tryz.prog 63 #[.pointer (some ⟨b, 0, none⟩), .string ⟨f.name.toArray⟩] w fun e w' => e = .returned (.int .i64 (f.sure : Int)) ∧ w = w' := by
  obtain ⟨h1, l, h2, h3⟩ := h
  exact sure_some w h2

theorem dk_used {wq w : World} {b room : Nat} {M : List Fm} (h : Dk wq w b room M) :
    Calls Tryz.prog 64 #[.pointer (some ⟨b, 0, none⟩)] w fun e w' => e = .returned (.int .i64 (tot M : Nat)) ∧ w = w' := by
  obtain ⟨h1, l, h2, h3⟩ := h
  exact used_calls b room l M w h2

theorem dk_fall {wq w : World} {b room : Nat} {M : List Fm} (n : Int) (hn : -9223372036854775808 ≤ n ∧ n ≤ 9223372036854775807) (h : Dk wq w b room M) (hfew : M.length ≤ 8000000000000) :
    Calls Tryz.prog 21 #[.pointer (some ⟨b, 0, none⟩), .int .i64 n] w fun e w' => ∃ bb, e = .returned (.pointer (some ⟨bb, 0, none⟩)) ∧ Dk wq w' b room M ∧ Dk wq w' bb room (mFall n M) ∧ Below w.heap.size w w' := by
  have h0 := h
  obtain ⟨h1, l, h2, h3⟩ := h
  refine (fall_calls n hn w h2 hfew).mono ?_
  rintro e w' ⟨bb, l', rfl, hd, hb, hl⟩
  exact ⟨bb, rfl, h0.below hb, ⟨h1.trans (hb.mono h1.size), l', hd, fun i hi => Nat.le_trans h1.size (hl i hi)⟩, hb⟩

/-- What is read: a slice of its own. -/
theorem dk_read {wq w : World} {b room : Nat} {M1 M2 : List Fm} {f : Fm} (h : Dk wq w b room (M1 ++ f :: M2)) :
    Calls Tryz.prog 19 #[.pointer (some ⟨b, 0, none⟩), .string ⟨f.name.toArray⟩] w fun e w' =>
      ∃ ao c, e = .returned (.tuple #[.slice ao f.b.length c, .bool true]) ∧ Sl w' ao c f.b ∧ (∀ A, ao = some A → w.heap.size ≤ A.block) ∧ Below w.heap.size w w' := by
  obtain ⟨h1, l, h2, h3⟩ := h
  refine (read_some w h2).mono ?_
  rintro e w' ⟨v, rfl, hrow, hb⟩
  obtain ⟨ao, c, rfl, hs, ha⟩ := row_read hrow
  exact ⟨ao, c, rfl, hs, ha, hb⟩

theorem dk_read_none {wq w : World} {b room : Nat} {M : List Fm} {n : List UInt8} (h : Dk wq w b room M) (hn : n ∉ M.map Fm.name) (hl : n.length ≤ 9223372036854775807) :
    Calls Tryz.prog 19 #[.pointer (some ⟨b, 0, none⟩), .string ⟨n.toArray⟩] w fun e w' => e = .returned (.tuple #[.slice none 0 0, .bool false]) ∧ w = w' := by
  obtain ⟨h1, l, h2, h3⟩ := h
  exact read_none w h2 hn hl

theorem dk_names {wq w : World} {b room : Nat} {M : List Fm} (h : Dk wq w b room M) (hfew : M.length ≤ 8000000000000) :
    Calls Tryz.prog 17 #[.pointer (some ⟨b, 0, none⟩)] w fun e w' => ∃ ao c, e = .returned (.slice ao M.length c) ∧ Dk wq w' b room M := by
  have h0 := h
  obtain ⟨h1, l, h2, h3⟩ := h
  refine (names_calls w h2 hfew).mono ?_
  rintro e w' ⟨v, ss, rfl, hp, hrow, hb⟩
  have hl : ss.length = M.length := by rw [hp.length_eq]; simp
  rcases hrow.2 with ⟨rfl, h⟩ | ⟨g, cap, cur, rfl, _⟩
  · exact ⟨none, 0, by rw [← hl, h], h0.below hb⟩
  · exact ⟨_, cap, by rw [hl], h0.below hb⟩

/-- Short's answer, under a name of its own. -/
theorem short_its (ao : Option Addr) (c n : Nat) (l : List UInt8) (w : World) (h : Sl w ao c l) (hn : n ≤ 1000) :
    Calls Tryz.prog 18 #[.slice ao l.length c, .int .i64 (n : Int)] w fun e w' =>
      ∃ ao' c' l', e = .returned (.slice ao' l'.length c') ∧ Sl w' ao' c' l' ∧ Below w.heap.size w w' ∧ l'.length ≤ n ∧ Hid (l' = l.take n) := by
  refine (short_calls ao c n l w h hn).mono ?_
  rintro e w' ⟨ao', c', rfl, hs, hb⟩
  exact ⟨ao', c', l.take n, rfl, hs, hb, by simp; omega, rfl⟩

end Go.Proofs.YtjdpglmphacfjaaGreatDoor
