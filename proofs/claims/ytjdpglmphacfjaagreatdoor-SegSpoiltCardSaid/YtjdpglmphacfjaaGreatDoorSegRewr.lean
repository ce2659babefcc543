/-
  The walks of rewrite and of lastOnDisk.
-/
import Derived.Test.YtjdpglmphacfjaaGreatDoorSegAdd
namespace Go.Proofs.YtjdpglmphacfjaaGreatDoor
open Go.RowKit

theorem lg_rename {L : List Nat} {wq w : World} {lb d room num : Nat} {T : List (List UInt8)} {M : List Fm} {s n : List UInt8} (h : Lg L wq w lb d room num T M) (hs : s.length ≤ 9223372036854775807) (hn : n.length ≤ 9223372036854775807) :
    Calls Tryz.prog 61 #[.pointer (some ⟨d, 0, none⟩), .string ⟨s.toArray⟩, .string ⟨n.toArray⟩] w fun e w' => e = .returned (.int .i64 (renE M s n)) ∧ Lg L wq w' lb d room num T (renM M s n) := by
  obtain ⟨l, hd, hl, hk⟩ := h.over
  refine (rename_fn w hd hs hn).mono ?_
  rintro e w' ⟨rfl, ht, l', hd', hl'⟩
  exact ⟨rfl, hk _ _ _ ht hd' (fun i hi => .inl (hl' i hi))⟩

/-- A file is written anew. -/
def rew (room : Nat) (M : List Fm) (name bs : List UInt8) : Int × List Fm :=
  if appE room M newName bs = 0 then
    (if synE (appM room M newName bs) newName = 0 then (renE (synM (appM room M newName bs) newName) newName name, renM (synM (appM room M newName bs) newName) newName name)
    else (synE (appM room M newName bs) newName, synM (appM room M newName bs) newName))
  else (appE room M newName bs, appM room M newName bs)

theorem newName_len : newName.length ≤ 9223372036854775807 := by decide

set_option maxHeartbeats 2000000 in
set_option maxRecDepth 100000 in
theorem rewrite_calls {L : List Nat} {wq w : World} {lb d room num : Nat} {T : List (List UInt8)} {M : List Fm} {name bs : List UInt8} {ao : Option Addr} {c : Nat} (h : Lg L wq w lb d room num T M) (hn : name.length ≤ 9223372036854775807) (hs : Sl wq ao c bs)
    (hL : ∀ A, ao = some A → bs ≠ [] → A.block ∉ L) :
    Calls Tryz.prog 51 #[.pointer (some ⟨d, 0, none⟩), .string ⟨name.toArray⟩, .slice ao bs.length c] w fun e w' => e = .returned (.int .i64 (rew room M name bs).1) ∧ Lg L wq w' lb d room num T (rew room M name bs).2 := by
  have C1 := Lib.hid (lg_append (n := newName) h newName_len hs hL)
  have HN := Lib.hid hn
  unfold rew
  clear h hn hs hL
  obtain ⟨e1, he1⟩ : ∃ e1, e1 = appE room M newName bs := ⟨_, rfl⟩
  rw [← he1] at C1 ⊢
  clear he1
  generalize appM room M newName bs = M1 at *
  obtain ⟨e2, he2⟩ : ∃ e2, e2 = synE M1 newName := ⟨_, rfl⟩
  rw [← he2]
  have HE2 := Lib.hid he2
  clear he2
  obtain ⟨M2, hM2⟩ : ∃ M2, M2 = synM M1 newName := ⟨_, rfl⟩
  rw [← hM2]
  have HM2 := Lib.hid hM2
  clear hM2
  generalize bs.length = nb at *
  by_cases h1 : e1 = 0
  · subst h1
    rw [if_pos rfl]
    by_cases h2 : e2 = 0
    · subst h2
      rw [if_pos rfl]
      obtain ⟨e3, he3⟩ : ∃ e3, e3 = renE M2 newName name := ⟨_, rfl⟩
      rw [← he3]
      have HE3 := Lib.hid he3
      clear he3
      go_enter Tryz.func51, Tryz.ntmps51
      go_wp2_with fail
      refine C1.out.mono ?_
      rintro e w1 ⟨rfl, h1⟩
      have H1 := Lib.hid h1
      clear h1 C1
      go_wp2_with fail
      refine (lg_sync H1.out newName_len).mono ?_
      rintro e w2 ⟨rfl, h2⟩
      rw [← HE2.out]
      rw [← HM2.out] at h2
      have H2 := Lib.hid h2
      clear h2 H1
      go_wp2_with fail
      refine (lg_rename H2.out newName_len HN.out).mono ?_
      rintro e w3 ⟨rfl, h3⟩
      rw [← HE3.out]
      have H3 := Lib.hid h3
      clear h3 H2
      go_wp2
      go_ret
      exact ⟨rfl, H3.out⟩
    · have a1 : (e2 == 0) = false := by simpa using h2
      have a2 : decide (e2 = 0) = false := by simpa using h2
      rw [if_neg h2]
      go_enter Tryz.func51, Tryz.ntmps51
      go_wp2_with fail
      refine C1.out.mono ?_
      rintro e w1 ⟨rfl, h1⟩
      have H1 := Lib.hid h1
      clear h1 C1
      go_wp2_with fail
      refine (lg_sync H1.out newName_len).mono ?_
      rintro e w2 ⟨rfl, h2⟩
      rw [← HE2.out]
      rw [← HM2.out] at h2
      have H2 := Lib.hid h2
      clear h2 H1
      go_wp2
      go_ret
      exact ⟨rfl, H2.out⟩
  · have a1 : (e1 == 0) = false := by simpa using h1
    have a2 : decide (e1 = 0) = false := by simpa using h1
    rw [if_neg h1]
    go_enter Tryz.func51, Tryz.ntmps51
    go_wp2_with fail
    refine C1.out.mono ?_
    rintro e w1 ⟨rfl, h1⟩
    have H1 := Lib.hid h1
    clear h1 C1
    go_wp2
    go_ret
    exact ⟨rfl, H1.out⟩

/-- The last number that has a file, from above; from, if there is none. -/
def lastK (M : List Fm) (lo : Nat) : Nat → Nat
  | 0 => lo
  | k + 1 => if hasF M (segName (lo + (k + 1))) = true then lo + (k + 1) else lastK M lo k

def lastOn (M : List Fm) (lo : Nat) : Nat := lastK M lo (999 - lo)

theorem lastK_le (M : List Fm) (lo : Nat) : ∀ k, lastK M lo k ≤ lo + k
  | 0 => Nat.le_refl _
  | k + 1 => by
    unfold lastK
    split
    · omega
    · have := lastK_le M lo k
      omega

theorem lastK_ge (M : List Fm) (lo : Nat) : ∀ k, lo ≤ lastK M lo k
  | 0 => Nat.le_refl _
  | k + 1 => by
    unfold lastK
    split
    · omega
    · exact lastK_ge M lo k

theorem dk_read_fn {wq w : World} {b room : Nat} {M : List Fm} {n : List UInt8} (h : Dk wq w b room M) (hn : n.length ≤ 9223372036854775807) :
    Calls Tryz.prog 19 #[.pointer (some ⟨b, 0, none⟩), .string ⟨n.toArray⟩] w fun e w' =>
      ∃ ao c, e = .returned (.tuple #[.slice ao (bytesOf M n).length c, .bool (hasF M n)]) ∧ Sl w' ao c (bytesOf M n) ∧ (∀ A, ao = some A → w.heap.size ≤ A.block) ∧ Below w.heap.size w w' := by
  obtain ⟨_, l, hd, _⟩ := h
  exact read_fn w hd hn

set_option maxHeartbeats 2000000 in
set_option maxRecDepth 100000 in
theorem lastOnDisk_calls {wq w : World} {d room : Nat} {M : List Fm} (h : Dk wq w d room M) (ht : Tab w) (lo : Nat) (hlo : lo ≤ 999) :
    Calls Tryz.prog 29 #[.pointer (some ⟨d, 0, none⟩), .int .i64 (lo : Int)] w fun e w' => e = .returned (.int .i64 (lastOn M lo : Nat)) ∧ Below w.heap.size w w' := by
  have H := Lib.hid h
  have HT := Lib.hid ht
  obtain ⟨res, hres⟩ : ∃ res, res = lastOn M lo := ⟨_, rfl⟩
  rw [← hres]
  have HR := Lib.hid hres
  clear h ht hres
  go_enter Tryz.func29, Tryz.ntmps29
  go_wp2_with fail
  go_loopw [5] (fun v wr => ∃ k : Nat, lo + k ≤ 999 ∧ v = .int .i64 ((lo + k : Nat) : Int) ∧ Below w.heap.size w wr ∧ lastK M lo k = res) (fun v _ => (intOf v).toNat - lo)
  case atStart => exact ⟨999 - lo, by omega, by rw [show lo + (999 - lo) = 999 by omega]; rfl, Below.refl _ _, HR.out.symm⟩
  case round =>
    obtain ⟨k, hk, rfl, hb, hl⟩ := hrel
    have HB := Lib.hid hb
    have HL := Lib.hid hl
    clear hb hl
    cases k with
    | zero =>
      have HE := Lib.hid (show res = lo from HL.out.symm)
      go_wp2
      go_ret
      exact ⟨by rw [HE.out]; rfl, HB.out⟩
    | succ k =>
      obtain ⟨n, hn⟩ : ∃ n, n = lo + (k + 1) := ⟨_, rfl⟩
      have h1 : (lo : Int) < (n : Int) := by omega
      rw [← hn] at hk ⊢
      have HNN := Lib.hid hn
      have CN := Lib.hid (name_calls n hk wr (HT.out.belowAll HB.out))
      clear hn
      go_wp2_with fail
      refine CN.out.mono ?_
      rintro e w2 ⟨rfl, hb2⟩
      have B2 := Lib.hid (HB.out.trans (hb2.mono HB.out.size))
      have CR := Lib.hid (dk_read_fn (H.out.below B2.out) (segName_len n))
      clear hb2 CN
      go_wp2_with fail
      refine CR.out.mono ?_
      rintro e w3 ⟨ao, c, rfl, -, -, hb3⟩
      have B3 := Lib.hid (B2.out.trans (hb3.mono B2.out.size))
      clear hb3 CR
      have hlk : lastK M lo (k + 1) = if hasF M (segName n) = true then n else lastK M lo k := by rw [HNN.out]; rfl
      have HLK := Lib.hid hlk
      clear hlk
      cases hf : hasF M (segName n) with
      | true =>
        have HE : Hid (res = n) := Lib.hid (by rw [← HL.out, HLK.out, hf]; rfl)
        clear hf
        go_wp2
        go_ret
        exact ⟨by rw [HE.out]; rfl, B3.out⟩
      | false =>
        have HE : Hid (lastK M lo k = res) := Lib.hid (by rw [← HL.out, HLK.out, hf]; rfl)
        clear hf
        have hn1 : (1 : Int) ≤ (n : Int) := by omega
        go_wp2
        go_roundw
        case rel => exact ⟨k, by have := HNN.out; omega, by rw [show (n : Int) - 1 = ((lo + k : Nat) : Int) by have := HNN.out; omega], B3.out, HE.out⟩
        case measure => simp [intOf]; have := HNN.out; omega

end Go.Proofs.YtjdpglmphacfjaaGreatDoor
