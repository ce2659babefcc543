/-
  The law's own 'cuts': both Cuts tell the same.
-/
import Derived.Test.YtgachdaphdjddaaGreatDoorRefCut
import Derived.Test.YtgachdaphdjddaaGreatDoorBegun3
namespace Go.Proofs.YtgachdaphdjddaaGreatDoor
open Go.RowKit

theorem refCut_ok {ao : Option Addr} {c : Nat} {b t : List UInt8} (w : World) (hs : Sl w ao c b) (h : cutR b = .ok t) :
    Calls Tryz.prog 40 #[.slice ao b.length c] w fun e w' => ∃ ao' c', e = .returned (.tuple #[.slice ao' t.length c', .int .i64 ((6 + t.length : Nat) : Int), .int .i64 0]) ∧ Sl w' ao' c' t ∧ Below w.heap.size w w' := by
  obtain ⟨h1, h2, h3, h4, h5⟩ := cutR_ok h
  have hsum : cutSum b = sumOn 0 (b.take 2 ++ (b.drop 6).take (cutLen b)) := by
    unfold cutR at h
    rw [if_neg (by omega), if_neg (by omega), if_neg (by omega)] at h
    split at h
    · assumption
    · cases h
  refine (refCut_whole ao c b w hs (by omega) (by omega)).mono ?_
  rintro e w' ⟨hok, -, hb⟩
  obtain ⟨a, c', rfl, hsl⟩ := hok hsum
  exact ⟨a, c', by rw [h5]; rfl, by rw [h4]; exact hsl, hb⟩

theorem refCut_err {ao : Option Addr} {c : Nat} {b : List UInt8} (w : World) (hs : Sl w ao c b) (h : ∀ t, cutR b ≠ .ok t) :
    Calls Tryz.prog 40 #[.slice ao b.length c] w fun e w' => e = .returned (.tuple #[.slice none 0 0, .int .i64 0, .int .i64 (errOf (cutR b))]) ∧ Below w.heap.size w w' := by
  unfold cutR at h ⊢
  by_cases h1 : b.length < 2
  · rw [if_pos h1]
    exact refCut_few ao c b w h1
  · rw [if_neg h1] at h ⊢
    by_cases h2 : cutLen b < 1 ∨ 4000 < cutLen b
    · rw [if_pos h2]
      exact refCut_wrong ao c b w hs (by omega) h2
    · rw [if_neg h2] at h ⊢
      by_cases h3 : b.length < 6 + cutLen b
      · rw [if_pos h3]
        exact refCut_short ao c b w hs (by omega) (by omega) h3
      · rw [if_neg h3] at h ⊢
        by_cases h4 : cutSum b = sumOn 0 (b.take 2 ++ (b.drop 6).take (cutLen b))
        · rw [if_pos h4] at h
          exact absurd rfl (h _)
        · rw [if_neg h4]
          refine (refCut_whole ao c b w hs (by omega) (by omega)).mono ?_
          rintro e w' ⟨-, hno, hb⟩
          exact ⟨hno h4, hb⟩

set_option maxHeartbeats 1000000 in
set_option maxRecDepth 100000 in
theorem cuts_calls (ao : Option Addr) (c : Nat) (b : List UInt8) (w : World) (hs : Sl w ao c b) :
    Calls Tryz.prog 17 #[.slice ao b.length c] w fun e w' => e = .returned (.bool true) ∧ Below w.heap.size w w' := by
  by_cases hc : ∃ t, cutR b = .ok t
  · obtain ⟨t, ht⟩ := hc
    have C1 := Lib.hid (cut_ok w hs ht)
    have C2 := Lib.hid (fun (wx : World) (h : Sl wx ao c b) => refCut_ok wx h ht)
    have HS := Lib.hid hs
    clear hs ht
    generalize b.length = nb at *
    obtain ⟨nt, hnt⟩ : ∃ n, n = t.length := ⟨_, rfl⟩
    have HNT := Lib.hid hnt
    rw [← hnt] at C1 C2
    clear hnt
    go_enter Tryz.func17, Tryz.ntmps17
    go_wp2_with fail
    refine C1.out.mono ?_
    rintro e w1 ⟨a1, c1, rfl, hs1, -, hb1⟩
    have S1 := Lib.hid hs1
    have B1 := Lib.hid hb1
    clear hs1 hb1
    go_wp2_with fail
    refine (C2.out _ (HS.out.belowAll B1.out)).mono ?_
    rintro e w2 ⟨a2, c2, rfl, hs2, hb2⟩
    have q1 : (convert 22 9 (.slice a1 nt c1)).run Tryz.prog w2 = .ok (.string ⟨t.toArray⟩) w2 := conv_sl (S1.out.belowAll hb2) HNT.out
    have q2 : (convert 22 9 (.slice a2 nt c2)).run Tryz.prog w2 = .ok (.string ⟨t.toArray⟩) w2 := conv_sl hs2 HNT.out
    have B2 := Lib.hid (B1.out.trans (hb2.mono B1.out.size))
    clear hs2 hb2
    go_wp2
    go_ret
    exact ⟨rfl, B2.out⟩
  · have hc' : ∀ t, cutR b ≠ .ok t := fun t ht => hc ⟨t, ht⟩
    have C1 := Lib.hid (cut_err w hs hc')
    have C2 := Lib.hid (fun (wx : World) (h : Sl wx ao c b) => refCut_err wx h hc')
    have HS := Lib.hid hs
    clear hs hc hc'
    generalize b.length = nb at *
    generalize errOf (cutR b) = er at *
    go_enter Tryz.func17, Tryz.ntmps17
    go_wp2_with fail
    refine C1.out.mono ?_
    rintro e w1 ⟨rfl, hb1⟩
    have B1 := Lib.hid hb1
    clear hb1
    go_wp2_with fail
    refine (C2.out _ (HS.out.belowAll B1.out)).mono ?_
    rintro e w2 ⟨rfl, hb2⟩
    have B2 := Lib.hid (B1.out.trans (hb2.mono B1.out.size))
    have q1 : (convert 22 9 (.slice none 0 0)).run Tryz.prog w2 = .ok (.string ⟨([] : List UInt8).toArray⟩) w2 := conv_sl (Sl.nil w2) rfl
    clear hb2
    go_wp2
    go_ret
    exact ⟨rfl, B2.out⟩

end Go.Proofs.YtgachdaphdjddaaGreatDoor
