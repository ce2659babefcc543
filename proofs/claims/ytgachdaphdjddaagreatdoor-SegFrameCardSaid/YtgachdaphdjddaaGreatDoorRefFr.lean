/-
  The reference's Frame.
-/
import Derived.Test.YtgachdaphdjddaaGreatDoorRefSum
import Derived.Test.YtgachdaphdjddaaGreatDoorSegMath
import Derived.Test.YtgachdaphdjddaaGreatDoorSegFrame
import Derived.Maps.AppendAt
import Derived.WalkKit
namespace Go.Proofs.YtgachdaphdjddaaGreatDoor

theorem i64_mask (n : Int) (k : Nat) (m : Int) (hm : (BitVec.ofInt 64 m).toNat = 2 ^ k - 1) (hk : 2 ^ k ≤ 9223372036854775808) : bits .and .i64 n m = (((n % 18446744073709551616).toNat % 2 ^ k : Nat) : Int) := by
  have key : (BitVec.ofInt 64 n &&& BitVec.ofInt 64 m).toNat = (n % ((2 ^ 64 : Nat) : Int)).toNat % 2 ^ k := by
    rw [BitVec.toNat_and, BitVec.toNat_ofInt, hm, Nat.and_two_pow_sub_one_eq_mod]
  show IntKind.i64.wrap ((BitVec.ofInt 64 n &&& BitVec.ofInt 64 m).toNat : Nat) = _
  rw [key, IntKind.wrap_i64]
  have : (n % ((2 ^ 64 : Nat) : Int)).toNat % 2 ^ k < 2 ^ k := Nat.mod_lt _ (Nat.two_pow_pos k)
  have e : ((2 ^ 64 : Nat) : Int) = 18446744073709551616 := by decide
  rw [e] at this ⊢
  omega

theorem i64_and65535 (n : Int) : bits .and .i64 n 65535 = n % 65536 := by
  rw [i64_mask n 16 65535 (by decide) (by decide)]; omega
theorem i64_and255 (n : Int) : bits .and .i64 n 255 = n % 256 := by
  rw [i64_mask n 8 255 (by decide) (by decide)]; omega
theorem i64_and3 (n : Int) : bits .and .i64 n 3 = n % 4 := by
  rw [i64_mask n 2 3 (by decide) (by decide)]; omega
theorem i64_and1 (n : Int) : bits .and .i64 n 1 = n % 2 := by
  rw [i64_mask n 1 1 (by decide) (by decide)]; omega

end Go.Proofs.YtgachdaphdjddaaGreatDoor

namespace Go.Proofs.YtgachdaphdjddaaGreatDoor
open Go.RowKit

theorem refSmall_calls (n : Int) (w : World) (_h : -9223372036854775808 ≤ n ∧ n ≤ 9223372036854775807) :
    Calls Tryz.prog 38 #[.int .i64 n] w fun e w' => e = .returned (.slice (some ⟨w.heap.size, 0, none⟩) 2 2) ∧ w' = w.alloc (.cells #[.int .u8 (n % 256), .int .u8 (n / 256 % 256)] 5) := by
  have m2 := i64_and255 n
  have m3 := i64_and255 (n / 256)
  have hw1 : IntKind.u8.wrap (n % 256) = n % 256 := by rw [IntKind.wrap_u8']; omega
  have hw2 : IntKind.u8.wrap (n / 256 % 256) = n / 256 % 256 := by rw [IntKind.wrap_u8']; omega
  go_enter Tryz.func38, Tryz.ntmps38
  go_wp2
  go_ret
  exact ⟨rfl, rfl⟩

theorem owns_small (n : Int) (w : World) : (w.alloc (.cells #[.int .u8 (n % 256), .int .u8 (n / 256 % 256)] 5)).ownsRow w.heap.size 5 1 (.slice (some ⟨w.heap.size, 0, none⟩) 2 2) 2 (u8s (smallB n)) := by
  have := World.ownsRow_lit (base := w.heap.size) (e := 5) (size := 1) w #[.int .u8 (n % 256), .int .u8 (n / 256 % 256)] 2 (Nat.le_refl _) (by decide) rfl
  rw [smallB_cells]
  exact this

set_option maxHeartbeats 400000 in
theorem refFrame_none (ao : Option Addr) (c : Nat) (b : List UInt8) (w : World) (h : okF b = false) :
    Calls Tryz.prog 16 #[.slice ao b.length c] w fun e w' => e = .returned (.slice none 0 0) ∧ w = w' := by
  by_cases h1 : (b.length : Int) < 1
  · generalize b.length = nb at *
    go_enter Tryz.func16, Tryz.ntmps16
    go_wp2
    go_ret
    exact ⟨rfl, rfl⟩
  · have h2 : (4000 : Int) < (b.length : Int) := by
      by_cases h2 : (4000 : Int) < (b.length : Int)
      · exact h2
      · have : okF b = true := okF_iff.2 ⟨by omega, by omega⟩
        rw [this] at h
        cases h
    generalize b.length = nb at *
    go_enter Tryz.func16, Tryz.ntmps16
    go_wp2
    go_ret
    exact ⟨rfl, rfl⟩

set_option maxHeartbeats 2000000 in
set_option maxRecDepth 100000 in
theorem refFrame_some (ao : Option Addr) (c : Nat) (b : List UInt8) (w : World) (h : okF b = true) (hs : Sl w ao c b) :
    Calls Tryz.prog 16 #[.slice ao b.length c] w fun e w' => ∃ v, e = .returned v ∧ w'.ownsRow w.heap.size 5 1 v (frB b).length (u8s (frB b)) ∧ Below w.heap.size w w' := by
  have hb := okF_iff.1 h
  obtain ⟨nb, hnb⟩ : ∃ nb, nb = b.length := ⟨_, rfl⟩
  have HS := Lib.hid hs
  have HNB := Lib.hid hnb
  rw [← hnb] at hb ⊢
  have k1 : decide ((nb : Int) < 1) = false := by simp; omega
  have k2 : decide ((4000 : Int) < (nb : Int)) = false := by simp; omega
  clear hs hnb h
  go_enter Tryz.func16, Tryz.ntmps16
  go_wp2_with fail
  refine (refSmall_calls (nb : Int) _ (by omega)).mono ?_
  rintro e w1 ⟨rfl, hw1⟩
  have HO := Lib.hid (owns_small (nb : Int) w)
  rw [← hw1] at HO
  have B1 : Hid (Below w.heap.size w w1) := Lib.hid (by rw [hw1]; exact (Below.refl _ w).alloc (Nat.le_refl _) _)
  have hs1 : w1.heap.size = w.heap.size + 1 := by rw [hw1]; simp
  have HW1 := Lib.hid hs1
  clear hw1 hs1
  have hq1 := B1.out.size
  obtain ⟨a1, c1, he1, hsl1, -⟩ := Sl.of_owns (l := smallB (nb : Int)) HO.out
  have HSL1 := Lib.hid hsl1
  injection he1 with e1 e2 e3
  subst e1 e3
  clear hsl1 e2 k1 k2
  have H1 := Lib.hid (HS.out.belowAll B1.out)
  go_wp2_with (at_builtin; refine append_bytes rfl (.const (.slice none 0 0)) (.tmp 16) rfl w1.heap.size (.slice none 0 0) [] rfl (World.ownsRow_nil _ _ _ _) (some ⟨w.heap.size, 0, none⟩) 2 (smallB (nb : Int)) rfl HSL1.out (by simp [smallB]) (Nat.le_refl _) ?_)
  intro v2 w2 hown2 hg2 _
  have B2 := Lib.hid (B1.out.grown hg2 hq1 (by intro k hk; cases hk))
  have HO2 := Lib.hid (HO.out.kept hg2 (.inr (by simp [Value.ownBlock])))
  have HB2 := Lib.hid (HS.out.belowAll B2.out)
  have hq2 : w1.heap.size ≤ w2.heap.size := hg2.size
  obtain ⟨a2, c2, he2, hsl2, hab2⟩ := Sl.of_owns hown2
  subst he2
  have OW2 := Lib.hid hown2
  have hne2 : ∀ k, (Value.slice a2 (smallB (nb : Int)).length c2).ownBlock = some k → w1.heap.size ≤ k := by
    intro k hk
    cases a2 with
    | none => cases hk
    | some A => injection hk with hk; subst hk; exact hab2 A rfl
  have NE2 := Lib.hid hne2
  rw [HNB.out]
  clear hown2 hg2 hsl2 hab2 hne2
  go_wp2_with (at_builtin; refine append_bytes rfl (.tmp 17) (.tmp 18) rfl w1.heap.size _ (smallB (nb : Int)) rfl OW2.out ao c b rfl HB2.out (by rw [← HNB.out]; simp [smallB]; omega) hq2 ?_)
  intro v3 w3 hown3 hg3 _
  have B3 := Lib.hid (B2.out.grown hg3 (Nat.le_trans hq1 hq2) (fun k hk => Nat.le_trans hq1 (NE2.out k hk)))
  have HO3 := Lib.hid (HO2.out.kept hg3 (.inr (fun e => by have h1 := NE2.out w.heap.size e.symm; have h2 := HW1.out; omega)))
  obtain ⟨L, hL⟩ : ∃ L, L = smallB (nb : Int) ++ b := ⟨_, rfl⟩
  have HL := Lib.hid hL
  rw [← hL] at hown3
  have hlen3 : L.length ≤ 1000000000 := by rw [hL, List.length_append, ← HNB.out]; simp [smallB]; omega
  obtain ⟨a3, c3, he3, hsl3, -⟩ := Sl.of_owns hown3
  subst he3
  have CS := Lib.hid (refSum_any a3 c3 L w3 hlen3 hsl3)
  have HB3 := Lib.hid (HS.out.belowAll B3.out)
  clear hown3 hg3 hsl3 hlen3 OW2 hL HSL1 H1 HB2 HO2
  go_wp2_with fail
  refine CS.out.mono ?_
  rintro e w4 ⟨rfl, hb4⟩
  obtain ⟨S, hS⟩ : ∃ S, S = sumOn 0 L := ⟨_, rfl⟩
  have hS2 : S < 4294967296 := by rw [hS]; exact sumOn_lt _ _
  rw [← hS]
  have HSS := Lib.hid hS
  have HO4 := Lib.hid (ownsRow_turn HO3.out (Turn.of_below hb4 []) (fun _ _ => by simp))
  have B4 := Lib.hid (B3.out.trans (hb4.mono B3.out.size))
  have HB4 := Lib.hid (HS.out.belowAll B4.out)
  clear hS CS HO3 B3 HB3 hb4 HO
  obtain ⟨l4, hl4⟩ : ∃ l4, l4 = smallB (S : Int) ++ smallB ((S / 65536 : Nat) : Int) := ⟨_, rfl⟩
  have hl4n : l4.length = 4 := by rw [hl4]; rfl
  have hl4c : u8s l4 = [.int .u8 ((S : Int) % 256), .int .u8 ((S : Int) / 256 % 256), .int .u8 ((S : Int) / 65536 % 256), .int .u8 ((S : Int) / 16777216)] := by
    rw [hl4, u8s_append, smallB_cells, smallB_cells]
    simp
    omega
  have hO4 := World.ownsRow_lit (base := w4.heap.size) (e := 5) (size := 1) w4 #[.int .u8 ((S : Int) % 256), .int .u8 ((S : Int) / 256 % 256), .int .u8 ((S : Int) / 65536 % 256), .int .u8 ((S : Int) / 16777216)] 4 (Nat.le_refl _) (by decide) rfl
  have hO4' : (w4.alloc (.cells #[.int .u8 ((S : Int) % 256), .int .u8 ((S : Int) / 256 % 256), .int .u8 ((S : Int) / 65536 % 256), .int .u8 ((S : Int) / 16777216)] 5)).ownsRow w4.heap.size 5 1 (.slice (some ⟨w4.heap.size, 0, none⟩) 4 4) l4.length (u8s l4) := by rw [hl4c, hl4n]; exact hO4
  obtain ⟨a4, c4, he4, hsl4, -⟩ := Sl.of_owns hO4'
  injection he4 with e1 e2 e3
  subst e1 e3
  have SL4 := Lib.hid hsl4
  have T5 := Turn.alloc [] w4 (.cells #[.int .u8 ((S : Int) % 256), .int .u8 ((S : Int) / 256 % 256), .int .u8 ((S : Int) / 65536 % 256), .int .u8 ((S : Int) / 16777216)] 5)
  have HO5 := Lib.hid (ownsRow_turn HO4.out T5 (fun _ _ => by simp))
  have B5 := Lib.hid (B4.out.trans (T5.belowAll.mono B4.out.size))
  have HB5 := Lib.hid (HS.out.belowAll B5.out)
  have HL4 := Lib.hid hl4
  have HL4N := Lib.hid hl4n
  have hq5 := B5.out.size
  clear hl4 hl4n hl4c hO4 hO4' hsl4 e2 T5 HB4 HO4
  go_wp2_with (at_builtin; refine append_bytes rfl (.tmp 21) (.tmp 33) rfl w.heap.size _ (smallB (nb : Int)) rfl HO5.out (some ⟨w4.heap.size, 0, none⟩) 4 l4 (by rw [HL4N.out]; rfl) SL4.out (by rw [HL4N.out]; simp [smallB]) hq5 ?_)
  intro v6 w6 hown6 hg6 _
  have B6 := Lib.hid (B5.out.grown hg6 hq5 (fun k hk => by cases hk; exact Nat.le_refl _))
  have HB6 := Lib.hid (HS.out.belowAll B6.out)
  have hq6 := B6.out.size
  obtain ⟨M6, hM6⟩ : ∃ M6, M6 = smallB (nb : Int) ++ l4 := ⟨_, rfl⟩
  replace hown6 : w6.ownsRow w.heap.size 5 1 v6 M6.length (u8s M6) := by rw [hM6, List.length_append]; exact hown6
  have HM6 := Lib.hid hM6
  have hM6l : M6.length ≤ 10 := by rw [hM6, List.length_append, HL4N.out]; simp [smallB]
  clear hM6
  obtain ⟨a6, c6, he6, hsl6, hab6⟩ := Sl.of_owns hown6
  subst he6
  have OW6 := Lib.hid hown6
  have NE6 : Hid (∀ k, (Value.slice a6 M6.length c6).ownBlock = some k → w.heap.size ≤ k) := Lib.hid (by
    intro k hk
    cases a6 with
    | none => cases hk
    | some A => injection hk with hk; subst hk; exact hab6 A rfl)
  have HBD : Hid (M6.length + b.length ≤ 140737488355328) := Lib.hid (by rw [← HNB.out]; omega)
  clear hown6 hg6 hsl6 hab6 SL4 HO5 hM6l
  go_wp2_with (at_builtin; refine append_bytes rfl (.tmp 34) (.tmp 35) rfl w.heap.size _ M6 rfl OW6.out ao c b rfl HB6.out HBD.out hq6 ?_)
  intro v7 w7 hown7 hg7 _
  have B7 := Lib.hid (B6.out.grown hg7 hq6 NE6.out)
  have hfr : M6 ++ b = frB b := by
    rw [HM6.out, HL4.out, frB, frHead, frSum, HSS.out, HL.out, HNB.out]
  have OW7 : Hid (w7.ownsRow w.heap.size 5 1 v7 (frB b).length (u8s (frB b))) := Lib.hid (by rw [← hfr, List.length_append]; exact hown7)
  clear hown7 hg7 hfr
  go_wp2
  go_ret
  exact ⟨_, rfl, OW7.out, B7.out⟩

end Go.Proofs.YtgachdaphdjddaaGreatDoor
