/-
  The walk of the law FileNames.
-/
import Derived.Test.YtlcilbbgfilefaaFileAllWalk
namespace Go.Proofs.Ytlcilbbgfilefaa
open Go.RowKit

theorem two_append_d_nil {L : List Nat} {wq w : World} {d r room : Nat} {M N : List Fm} {n : List UInt8} (h : Two L wq w d r room M N) (hn : n.length ≤ 9223372036854775807) :
    Calls Try.prog 21 #[.pointer (some ⟨d, 0, none⟩), .string ⟨n.toArray⟩, .slice none 0 0] w fun e w' => e = .returned (.int .i64 (appE room M n [])) ∧ Two L wq w' d r room (appM room M n []) N :=
  two_append_d (bs := []) h hn (Sl.nil _) (fun A hA => by cases hA)

theorem two_append_r_nil {L : List Nat} {wq w : World} {d r room : Nat} {M N : List Fm} {n : List UInt8} (h : Two L wq w d r room M N) (hnd : (N.map Fm.name).Nodup) (hfew : N.length ≤ 400000) (hn : n.length ≤ 9223372036854775807) :
    Calls Try.prog 24 #[.pointer (some ⟨r, 0, none⟩), .string ⟨n.toArray⟩, .slice none 0 0] w fun e w' => e = .returned (.int .i64 (appE room N n [])) ∧ Two L wq w' d r room M (appM room N n []) :=
  two_append_r (bs := []) h hnd hfew hn (Sl.nil _) (fun A hA => by cases hA)

theorem cat_sign (x : List UInt8) (sg : UInt8) : (⟨x.toArray⟩ : ByteArray) ++ ⟨#[sg]⟩ = ⟨(x ++ [sg]).toArray⟩ := ByteArray.mk_append_mk x [sg]

set_option maxHeartbeats 4000000 in
set_option maxRecDepth 100000 in
theorem fileNames_walk (s0 : ByteArray) (ws : s0.size ≤ maxLen) (a1 : Int) (w1 : (Lit.int .u8 a1).wf = true) {w : World} :
    Calls Try.prog 6 #[.string s0, .int .u8 a1] w fun e w' => e = .returned (.bool true) ∧ Below w.heap.size w w' := by
  have hb := bounds_u8 w1
  obtain ⟨sg, hsg⟩ : ∃ sg : UInt8, (sg.toNat : Int) = a1 := ⟨UInt8.ofNat a1.toNat, by rw [UInt8.toNat_ofNat']; omega⟩
  obtain ⟨sl, hsl, rfl⟩ : ∃ sl : List UInt8, sl.length ≤ 9223372036854775807 ∧ s0 = ⟨sl.toArray⟩ := ⟨s0.data.toList, text_le ws, rfl⟩
  have CC := Lib.hid (fun x => cut_its sl 15 x hsl (by omega))
  have HSG := Lib.hid hsg
  clear hsl ws w1 hb hsg
  go_enter Try.func6, Try.ntmps6
  go_wp2_with fail
  refine (begun3_calls _).mono ?_
  rintro e x1 ⟨rfl, hb1⟩
  have B1 := Lib.hid hb1
  clear hb1
  go_wp2_with fail
  refine (CC.out _).mono ?_
  rintro e w' ⟨s, rfl, hs, -, rfl⟩
  have hs2 : (s.length : Int) ≤ 15 := by omega
  have HS := Lib.hid hs
  clear hs CC
  go_wp2_with fail
  refine (dk_new 10 _).mono ?_
  rintro e x2 ⟨rfl, hd2⟩
  have D2 := Lib.hid hd2
  clear hd2
  have f1 := sign_text x2 (x2.alloc (.cells #[.int .u8 a1] 5)) sg (x := a1) HSG.out (Turn.refl [] _)
  have D3 := Lib.hid (D2.out.turn (Turn.alloc [] x2 (.cells #[.int .u8 a1] 5)))
  go_wp2_with fail
  rw [cat_sign]
  obtain ⟨t, ht⟩ : ∃ t, t = s ++ [sg] := ⟨_, rfl⟩
  rw [← ht]
  have HTL := Lib.hid (show t.length ≤ 9223372036854775807 by rw [ht, List.length_append, List.length_singleton]; have := HS.out; omega)
  have HSL := Lib.hid (show s.length ≤ 9223372036854775807 by have := HS.out; omega)
  clear ht f1 hs2 HS
  refine (newRef_calls 10 _).mono ?_
  rintro e x3 ⟨rfl, hr3, hb3⟩
  have H3 := Lib.hid (two_new D3.out hr3 hb3)
  clear hr3 hb3 D2 D3
  generalize x1.heap.size = d at H3 ⊢
  generalize (x2.alloc (.cells #[.int .u8 a1] 5)).heap.size = r at H3 ⊢
  generalize roomOf 10 = room at H3
  go_wp2_with fail
  refine (two_append_d_nil H3.out HSL.out).mono ?_
  rintro e x4 ⟨rfl, h4⟩
  have H4 := Lib.hid h4
  clear h4 H3
  go_wp2_with fail
  refine (two_append_r_nil H4.out (by simp) (by simp) HSL.out).mono ?_
  rintro e x5 ⟨rfl, h5⟩
  obtain ⟨M5, hM5⟩ : ∃ M5, M5 = appM room [] s [] := ⟨_, rfl⟩
  obtain ⟨e5, he5⟩ : ∃ e5, e5 = appE room [] s [] := ⟨_, rfl⟩
  have hl5 : M5.length ≤ 1 := by rw [hM5]; exact appM_length _ _ _ _
  rw [← hM5] at h5
  rw [← he5]
  have H5 := Lib.hid h5
  have HL5 := Lib.hid hl5
  clear h5 H4 hM5 he5 hl5
  go_wp2_with fail
  refine (two_append_d_nil H5.out HTL.out).mono ?_
  rintro e x6 ⟨rfl, h6⟩
  have H6 := Lib.hid h6
  clear h6
  go_wp2_with fail
  refine (two_append_r_nil H6.out H5.out.nodup (by have := HL5.out; omega) HTL.out).mono ?_
  rintro e x7 ⟨rfl, h7⟩
  obtain ⟨M7, hM7⟩ : ∃ M7, M7 = appM room M5 t [] := ⟨_, rfl⟩
  obtain ⟨e7, he7⟩ : ∃ e7, e7 = appE room M5 t [] := ⟨_, rfl⟩
  have hl7 : M7.length ≤ 2 := by
    have h8 := appM_length room t [] M5
    rw [← hM7] at h8
    have := HL5.out
    omega
  rw [← hM7] at h7
  rw [← he7]
  have H7 := Lib.hid h7
  have HL7 := Lib.hid hl7
  clear h7 H5 H6 hM7 he7 hl7 HL5
  go_wp2_with fail
  refine (two_rename_d H7.out HSL.out HTL.out).mono ?_
  rintro e x8 ⟨rfl, h8⟩
  have H8 := Lib.hid h8
  clear h8
  go_wp2_with fail
  refine (two_rename_r H8.out H7.out.nodup (by have := HL7.out; omega) HTL.out).mono ?_
  rintro e x9 ⟨rfl, h9⟩
  have H9 := Lib.hid h9
  have HL9 := Lib.hid (renM_length s t M7)
  clear h9 H8
  generalize renM M7 s t = M9 at H9 HL9
  generalize renE M7 s t = e9
  go_wp2_with fail
  refine (two_same H9.out (by have := HL9.out; have := HL7.out; omega)).mono ?_
  rintro e x10 ⟨rfl, h10⟩
  have H10 := Lib.hid h10
  clear h10
  go_wp2
  go_ret
  exact ⟨rfl, B1.out.trans (H10.out.old.belowAll.mono B1.out.size)⟩

end Go.Proofs.Ytlcilbbgfilefaa
