/-
  The walk of the hatch laws' own 'begun': it answers true, and turns nothing that was there.
-/
import Derived.Test.YtijpfahiedggmaaHatS
namespace Go.Proofs.Ytijpfahiedggmaa
open Go.RowKit Go.Conc

set_option maxHeartbeats 4000000 in
set_option maxRecDepth 100000 in
theorem begun_calls (w : World) : Calls Try.prog 8 #[] w fun e w' => e = .returned (.bool true) ∧ Below w.heap.size w w' := by
  go_enter Try.func8, Try.ntmps8
  go_wp2_with fail
  refine (newS 2 _).mono ?_
  rintro e w1 ⟨b, c1, c2, rfl, h1, t1, hb, hc1, hc2⟩
  rw [show roomOf 2 = 2 by decide] at h1
  have H1 := Lib.hid h1
  have T1 : Hid (Turn [b, c1, c2] w w1) := Lib.hid (t1.mono (by simp))
  have HB := Lib.hid (show ∀ k ∈ [b, c1, c2], w.heap.size ≤ k by simp; omega)
  clear h1 t1 hb hc1 hc2
  go_wp2_with fail
  refine (slowS_room H1.out ⟨#[115]⟩ (by simp)).mono ?_
  rintro e w2 ⟨rfl, h2, t2⟩
  generalize w1.heap.size = k2 at h2
  have H2 := Lib.hid h2
  have T2 : Hid (Turn [b, c1, c2] w w2) := Lib.hid (T1.out.trans t2 (by simp))
  clear h2 t2 H1 T1
  go_wp2_with fail
  refine (fastS_room H2.out ⟨#[97]⟩ (by simp)).mono ?_
  rintro e w3 ⟨rfl, h3, t3⟩
  generalize w2.heap.size = k3 at h3
  have H3 := Lib.hid h3
  have T3 : Hid (Turn [b, c1, c2] w w3) := Lib.hid (T2.out.trans t3 (by simp))
  clear h3 t3 H2 T2
  go_wp2_with fail
  refine (fastS_room H3.out ⟨#[98]⟩ (by simp)).mono ?_
  rintro e w4 ⟨rfl, h4, t4⟩
  generalize w3.heap.size = k4 at h4
  have H4 := Lib.hid h4
  have T4 : Hid (Turn [b, c1, c2] w w4) := Lib.hid (T3.out.trans t4 (by simp))
  clear h4 t4 H3 T3
  go_wp2_with fail
  refine (fastS_full H4.out ⟨#[99]⟩ (by simp) (by simp)).mono ?_
  rintro e w5 ⟨rfl, h5, t5⟩
  have H5 := Lib.hid h5
  have T5 : Hid (Turn [b, c1, c2] w w5) := Lib.hid (T4.out.trans t5 (by simp))
  clear h5 t5 H4 T4
  go_wp2_with fail
  refine (lenHS H5.out).mono ?_
  rintro e w6 ⟨rfl, t6⟩
  have H6 := Lib.hid (H5.out.nil t6)
  have T6 : Hid (Turn [b, c1, c2] w w6) := Lib.hid (T5.out.trans t6 (by simp))
  clear t6 H5 T5
  go_wp2_with fail
  refine (takS_fast H6.out).mono ?_
  rintro e w7 ⟨rfl, h7, t7⟩
  have H7 := Lib.hid h7
  have T7 : Hid (Turn [b, c1, c2] w w7) := Lib.hid (T6.out.trans t7 (by simp))
  clear h7 t7 H6 T6
  go_wp2_with fail
  refine (takS_fast H7.out).mono ?_
  rintro e w8 ⟨rfl, h8, t8⟩
  have H8 := Lib.hid h8
  have T8 : Hid (Turn [b, c1, c2] w w8) := Lib.hid (T7.out.trans t8 (by simp))
  clear h8 t8 H7 T7
  go_wp2_with fail
  refine (takS_slow H8.out).mono ?_
  rintro e w9 ⟨rfl, h9, t9⟩
  have H9 := Lib.hid h9
  have T9 : Hid (Turn [b, c1, c2] w w9) := Lib.hid (T8.out.trans t9 (by simp))
  clear h9 t9 H8 T8
  go_wp2_with fail
  refine (takS_none H9.out).mono ?_
  rintro e w10 ⟨rfl, rfl⟩
  go_wp2_with fail
  refine (lostS H9.out).mono ?_
  rintro e w10 ⟨rfl, rfl⟩
  go_wp2
  go_ret
  exact ⟨rfl, T9.out.below HB.out (Nat.le_refl _)⟩

end Go.Proofs.Ytijpfahiedggmaa
