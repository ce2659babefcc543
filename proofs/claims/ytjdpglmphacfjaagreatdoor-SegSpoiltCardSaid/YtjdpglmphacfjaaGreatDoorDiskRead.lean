/-
  The walks of bytes.Clone, and of file.Disk's Read; of content's stays.
-/
import Derived.Test.YtjdpglmphacfjaaGreatDoorDiskRename
import Derived.Lib.SliceRun
import Derived.Lib.MinMax
namespace Go.Proofs.YtjdpglmphacfjaaGreatDoor
open Go.RowKit

set_option maxHeartbeats 1000000 in
set_option maxRecDepth 100000 in
theorem clone_at (A : Addr) (c : Nat) (l : List UInt8) (w : World) (h : Sl w (some A) c l) (hb : l.length ≤ 140737488355328) :
    Calls Tryz.prog 33 #[.slice (some A) l.length c] w fun e w' => ∃ v, e = .returned v ∧ w'.ownsRow w.heap.size 5 1 v l.length (u8s l) ∧ Below w.heap.size w w' := by
  have q := fun (w : World) (a : Option Addr) (n c n' c' : Nat) => Lib.run_eql_slice_nil (P := Tryz.prog) w 31 5 a n c n' c' Tryz.underlying31
  obtain ⟨i0, hi, hz0, hz1, hz2⟩ := info_parts Tryz.u8row
  have HS := Lib.hid (show Sl (w.alloc (.cells #[] 5)) (some A) c l from h.turn (Turn.alloc [] w _) (by simp))
  have HO := Lib.hid (World.ownsRow_made w #[] (e := 5) (size := 1) 0 (base := w.heap.size) (Nat.le_refl _) (Nat.zero_le _) rfl)
  have z5 : ∀ w, Sem.run Tryz.prog (Go.sizeOf 5) w = .ok 1 w := fun w => by simp [Go.sizeOf, typeInfo, hi, hz1]
  obtain ⟨nl, hnl⟩ : ∃ nl, nl = l.length := ⟨_, rfl⟩
  have HN := Lib.hid hnl
  rw [← hnl] at hb
  rw [show Value.slice (some A) l.length c = Value.slice (some A) nl c by rw [hnl]]
  clear h hnl
  go_enter Tryz.func33, Tryz.ntmps33
  go_wp2_with (at_builtin; refine append_bytes rfl (.tmp 5) (.tmp 6) rfl w.heap.size (.slice (some ⟨w.heap.size, 0, none⟩) 0 0) [] rfl HO.out (some A) c l (by rw [← HN.out]; rfl) HS.out (by simp; rw [← HN.out]; omega) (by simp) ?_; intro v w1 hown hg _; have HW := Lib.hid hown; have HG := Lib.hid hg; clear hown hg)
  go_ret
  rw [HN.out]
  exact ⟨v, rfl, HW.out, ((Below.refl _ w).alloc (Nat.le_refl _) _).grown HG.out (by simp) (by intro k hk; simp [Value.ownBlock] at hk; omega)⟩

set_option maxHeartbeats 400000 in
theorem clone_none (w : World) : Calls Tryz.prog 33 #[.slice none 0 0] w fun e w' => e = .returned (.slice none 0 0) ∧ w = w' := by
  have q := fun (w : World) (a : Option Addr) (n c n' c' : Nat) => Lib.run_eql_slice_nil (P := Tryz.prog) w 31 5 a n c n' c' Tryz.underlying31
  go_enter Tryz.func33, Tryz.ntmps33
  go_wp2
  go_ret
  exact ⟨rfl, rfl⟩

theorem clone_calls (ao : Option Addr) (c : Nat) (l : List UInt8) (w : World) (h : Sl w ao c l) (hb : l.length ≤ 140737488355328) :
    Calls Tryz.prog 33 #[.slice ao l.length c] w fun e w' => ∃ v, e = .returned v ∧ w'.ownsRow w.heap.size 5 1 v l.length (u8s l) ∧ Below w.heap.size w w' := by
  cases ao with
  | some A => exact clone_at A c l w h hb
  | none =>
    rcases h with ⟨_, rfl, rfl⟩ | ⟨A, hA, _⟩
    · refine (clone_none w).mono ?_
      rintro e w' ⟨rfl, rfl⟩
      exact ⟨_, rfl, World.ownsRow_nil _ _ _ _, Below.refl _ _⟩
    · cases hA

set_option maxHeartbeats 1000000 in
theorem read_some {b room : Nat} {l : List Nat} {M1 M2 : List Fm} {f : Fm} (w : World) (h : DiskM w b room l (M1 ++ f :: M2)) :
    Calls Tryz.prog 19 #[.pointer (some ⟨b, 0, none⟩), .string ⟨f.name.toArray⟩] w fun e w' =>
      ∃ v, e = .returned (.tuple #[v, .bool true]) ∧ w'.ownsRow w.heap.size 5 1 v f.b.length (u8s f.b) ∧ Below w.heap.size w w' := by
  have htot := h.total
  obtain ⟨mb, L1, e0, L2, hd, rfl, rfl, rfl, rfl⟩ := h.split
  have hel : e0.f.b.length ≤ tot (L1.map Ent.f ++ e0.f :: L2.map Ent.f) := by simp only [tot_append, tot_cons]; omega
  have hel2 : e0.f.b.length ≤ 140737488355328 := by omega
  have H := Lib.hid hd
  obtain ⟨v, he1, he2, -, -⟩ := hd.ents e0 (by simp)
  obtain ⟨ao, cp, rfl, hsl⟩ := row_slice he2
  obtain ⟨d0, -, -, -, -, -⟩ := three_cells he1
  have HS := Lib.hid hsl
  have C := Lib.hid (clone_calls ao cp e0.f.b w hsl hel2)
  obtain ⟨nl, hnl⟩ : ∃ nl, nl = e0.f.b.length := ⟨_, rfl⟩
  have HN := Lib.hid hnl
  rw [← hnl] at d0 C
  clear he1 he2 hsl hd h hnl hel hel2 htot
  go_enter Tryz.func19, Tryz.ntmps19
  go_wp2_with fail
  refine (find_some _ H.out (by simp)).mono ?_
  rintro e w' ⟨rfl, rfl⟩
  go_wp2_with fail
  refine C.out.mono ?_
  rintro e w1 ⟨v', rfl, hown, hb⟩
  have HO := Lib.hid hown
  have HB := Lib.hid hb
  clear hown hb
  go_wp2
  go_ret2
  rw [← HN.out]
  exact ⟨v', rfl, HO.out, HB.out⟩

set_option maxHeartbeats 400000 in
theorem read_none {b room : Nat} {l : List Nat} {M : List Fm} {n : List UInt8} (w : World) (h : DiskM w b room l M) (hn : n ∉ M.map Fm.name) (hl : n.length ≤ 9223372036854775807) :
    Calls Tryz.prog 19 #[.pointer (some ⟨b, 0, none⟩), .string ⟨n.toArray⟩] w fun e w' => e = .returned (.tuple #[.slice none 0 0, .bool false]) ∧ w = w' := by
  obtain ⟨mb, L, hd, rfl, rfl⟩ := h
  rw [List.map_map] at hn
  have H := Lib.hid hd
  have HN := Lib.hid hn
  clear hd hn
  go_enter Tryz.func19, Tryz.ntmps19
  go_wp2_with fail
  refine (find_none _ H.out HN.out hl).mono ?_
  rintro e w' ⟨rfl, rfl⟩
  go_wp2
  go_ret2
  exact ⟨rfl, rfl⟩

/-- How many of what is not sure outlast a fall. -/
def moreOf (n : Int) (lo : Nat) : Nat := (max n 0 % ((lo : Int) + 1)).toNat

theorem moreOf_is (n : Int) (lo : Nat) : max n 0 % ((lo : Int) + 1) = ((moreOf n lo : Nat) : Int) ∧ moreOf n lo ≤ lo := by
  have h1 : 0 ≤ max n 0 % ((lo : Int) + 1) := Int.emod_nonneg _ (by omega)
  have h2 : max n 0 % ((lo : Int) + 1) < (lo : Int) + 1 := Int.emod_lt_of_pos _ (by omega)
  unfold moreOf
  omega

/-- What outlasts a fall. -/
def mStay (n : Int) (f : Fm) : List UInt8 := f.b.take (f.sure + moreOf n (f.b.length - f.sure))

set_option maxHeartbeats 1000000 in
theorem stays_calls {w : World} {e0 : Ent} (n : Int) (hn : -9223372036854775808 ≤ n ∧ n ≤ 9223372036854775807) (h : EntIs w e0) (hl : e0.f.b.length ≤ 1048576) :
    Calls Tryz.prog 40 #[.pointer (some ⟨e0.c, 0, none⟩), .int .i64 n] w fun e w' =>
      ∃ ao c, e = .returned (.slice ao (mStay n e0.f).length c) ∧ Sl w ao c (mStay n e0.f) ∧ (∀ x, ao = some x → mStay n e0.f ≠ [] → some x.block = e0.r) ∧ Turn [] w w' := by
  obtain ⟨v, he1, he2, he3, he4⟩ := h
  obtain ⟨ao, cp, rfl, hsl⟩ := row_slice he2
  obtain ⟨d0, d1, -, -, -, -⟩ := three_cells he1
  have hcap := hsl.le
  unfold maxLen at hcap
  obtain ⟨hm1, hm2⟩ := moreOf_is n (e0.f.b.length - e0.f.sure)
  have hlen : (mStay n e0.f).length = e0.f.sure + moreOf n (e0.f.b.length - e0.f.sure) := by unfold mStay; rw [List.length_take]; omega
  have hsl2 := Sl.take hsl (e0.f.sure + moreOf n (e0.f.b.length - e0.f.sure))
  have HS : Hid (Sl w ao cp (mStay n e0.f)) := Lib.hid hsl2
  have hrow : ∀ x, ao = some x → mStay n e0.f ≠ [] → some x.block = e0.r := by
    intro x hx _
    rw [← he3, hx]
    rfl
  have HR := Lib.hid hrow
  have HL := Lib.hid hlen
  have hal : ao = none → cp = 0 := by
    intro h
    rcases hsl with ⟨_, h, _⟩ | ⟨A, h2, _⟩
    · exact h
    · rw [h] at h2; cases h2
  generalize mStay n e0.f = ms at *
  obtain ⟨mo, hmo⟩ : ∃ mo, mo = moreOf n (e0.f.b.length - e0.f.sure) := ⟨_, rfl⟩
  rw [← hmo] at hm1 hm2 HL
  obtain ⟨nl, hnl⟩ : ∃ nl, nl = e0.f.b.length := ⟨_, rfl⟩
  obtain ⟨su, hsu⟩ : ∃ su, su = e0.f.sure := ⟨_, rfl⟩
  rw [← hnl, ← hsu] at hm1 hm2
  rw [← hnl] at d0 he4 hl hcap
  rw [← hsu] at d1 he4 HL
  obtain ⟨lo, hlo⟩ : ∃ lo, lo = nl - su := ⟨_, rfl⟩
  rw [← hlo] at hm1 hm2
  have hlo2 : (nl : Int) - (su : Int) = (lo : Int) := by omega
  have b1 : (su : Int) + (mo : Int) ≤ (cp : Int) := by omega
  have b2 : lo ≤ 1048576 := by omega
  have b3 : su + mo ≤ 1048576 := by omega
  have b4 : 0 ≤ max n 0 := by omega
  have b5 : max n 0 ≤ 9223372036854775807 := by omega
  have HLo := Lib.hid hlo2
  clear hlo he1 he2 he3 hsl hsl2 hrow hlen hmo hnl hsu hlo2
  cases ao with
  | none =>
    obtain rfl : cp = 0 := hal rfl
    obtain rfl : nl = 0 := by omega
    obtain rfl : su = 0 := by omega
    obtain rfl : mo = 0 := by omega
    obtain rfl : lo = 0 := by have := HLo.out; omega
    clear hal hcap he4 b1 b3 HLo
    go_enter Tryz.func40, Tryz.ntmps40
    go_wp2
    go_quiet (fail)
    go_wp2
    go_quiet (fail)
    go_wp2
    go_ret
    have t : ∀ p q, Turn [] w ((w.drewN p).drewN q) := fun p q => (Turn.drewN [] w p).trans (Turn.drewN [] _ q) (by simp)
    refine ⟨none, 0, ?_, HS.out, HR.out, t _ _⟩
    rw [HL.out]
    rfl
  | some A =>
    clear hal
    go_enter Tryz.func40, Tryz.ntmps40
    go_wp2
    go_quiet (fail)
    rw [HLo.out]
    go_wp2
    rw [hm1]
    have s1 : IntKind.i64.wrap ((su : Int) + (mo : Int)) = (su : Int) + (mo : Int) := IntWalk.i64_in _ (by omega)
    have s2 : 0 ≤ (su : Int) + (mo : Int) := by omega
    have s3 : ((su : Int) + (mo : Int)).toNat = su + mo := by omega
    go_quiet (fail)
    go_wp2
    go_ret
    have t : ∀ p q, Turn [] w ((w.drewN p).drewN q) := fun p q => (Turn.drewN [] w p).trans (Turn.drewN [] _ q) (by simp)
    refine ⟨some A, cp, ?_, HS.out, HR.out, t _ _⟩
    rw [HL.out]
    rfl

end Go.Proofs.YtjdpglmphacfjaaGreatDoor
