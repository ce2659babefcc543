/-
  The walk of the law SegFrame.
-/
import Derived.Test.YtgachdaphdjddaaGreatDoorBegun4
import Derived.Test.YtgachdaphdjddaaGreatDoorSegPut
import Derived.Test.YtgachdaphdjddaaGreatDoorSegCuts
import Derived.Test.YtgachdaphdjddaaGreatDoorShortNew
import Derived.Test.YtgachdaphdjddaaGreatDoorOpen
namespace Go.Proofs.YtgachdaphdjddaaGreatDoor
open Go.RowKit

theorem xor_byte (a b : Int) : 0 ≤ bits .xor .u8 a b ∧ bits .xor .u8 a b < 256 := by
  have h : ∃ z, bits .xor .u8 a b = IntKind.u8.wrap z := ⟨_, rfl⟩
  obtain ⟨z, hz⟩ := h
  rw [hz, IntKind.wrap_u8']
  omega

theorem Sl.some_of {w : World} {ao : Option Addr} {c : Nat} {l : List UInt8} (h : Sl w ao c l) (hl : l ≠ []) : ∃ A, ao = some A := by
  rcases h with ⟨_, _, h⟩ | ⟨A, hA, _⟩
  · exact absurd h hl
  · exact ⟨A, hA⟩

set_option maxHeartbeats 8000000 in
set_option maxRecDepth 100000 in
theorem segFrame_walk (a0 : Option Addr) (cap0 : Nat) (l0 : List UInt8) (a1 : Option Addr) (cap1 : Nat) (l1 : List UInt8) (a2 : Int) (a3 : Int) (w : World) (w0 : Sl w a0 cap0 l0) (w1 : Sl w a1 cap1 l1) (htab : Tab w) :
    Calls Tryz.prog 3 #[.slice a0 l0.length cap0, .slice a1 l1.length cap1, .int .i64 a2, .int .u8 a3] w fun e w' => e = .returned (.bool true) ∧ Below w.heap.size w w' := by
  have H0 := Lib.hid w0
  have H1 := Lib.hid w1
  have HTB := Lib.hid htab
  clear w0 w1 htab
  have nt := sl_nil_test
  go_enter Tryz.func3, Tryz.ntmps3
  go_wp2_with fail
  refine (begun4_calls _ HTB.out).mono ?_
  rintro e x1 ⟨rfl, hb1⟩
  have B1 := Lib.hid hb1
  have S0 := Lib.hid (H0.out.belowAll hb1)
  have S1 := Lib.hid (H1.out.belowAll hb1)
  clear hb1 H0 H1
  go_wp2_with fail
  refine (short_new a0 cap0 100 l0 x1 S0.out (by omega)).mono ?_
  rintro e x2 ⟨ay, cy, rfl, hsy, hb2, -⟩
  obtain ⟨y, hy⟩ : ∃ y, y = l0.take 100 := ⟨_, rfl⟩
  have hyl : y.length ≤ 100 := by rw [hy, List.length_take]; omega
  rw [← hy] at hsy ⊢
  have SY := Lib.hid hsy
  have S12 := Lib.hid (S1.out.belowAll hb2)
  have B2 := Lib.hid (B1.out.trans (hb2.mono B1.out.size))
  clear hy hsy hb2 S0 S1 B1
  go_wp2_with fail
  refine (short_new a1 cap1 40 l1 x2 S12.out (by omega)).mono ?_
  rintro e x3 ⟨az, cz, rfl, hsz, hb3, -⟩
  obtain ⟨z, hz⟩ : ∃ y, y = l1.take 40 := ⟨_, rfl⟩
  have hzl : z.length ≤ 40 := by rw [hz, List.length_take]; omega
  rw [← hz] at hsz ⊢
  obtain ⟨nz, hnz⟩ : ∃ n, n = z.length := ⟨_, rfl⟩
  obtain ⟨ny, hny⟩ : ∃ n, n = y.length := ⟨_, rfl⟩
  have SZ := Lib.hid hsz
  have SY3 := Lib.hid (SY.out.belowAll hb3)
  have B3 := Lib.hid (B2.out.trans (hb3.mono B2.out.size))
  have HNZ := Lib.hid hnz
  have HNY := Lib.hid hny
  clear hz hsz hb3 S12 B2 SY
  by_cases hok : okF y = true
  · have HOK := Lib.hid hok
    have CF := frame_some ay cy y x3 hok SY3.out
    obtain ⟨fr, hfr⟩ : ∃ f, f = frB y := ⟨_, rfl⟩
    obtain ⟨nf, hnf⟩ : ∃ n, n = fr.length := ⟨_, rfl⟩
    have hnf0 : 6 < nf ∧ nf ≤ 106 := by
      have h1 := okF_iff.1 hok
      rw [hnf, hfr, frB_length]
      omega
    rw [← hfr, ← hnf, ← hny] at CF
    have CR := Lib.hid (fun (wx : World) (h : Sl wx ay cy y) => refFrame_some ay cy y wx hok h)
    rw [← hfr, ← hnf, ← hny] at CR
    rw [← hny, ← hnz]
    have HCF := Lib.hid CF
    have HNF := Lib.hid hnf
    have HFR := Lib.hid hfr
    clear CF hok hnf hfr hny hnz
    go_wp2_with fail
    refine HCF.out.mono ?_
    rintro e x4 ⟨af, cf, rfl, hsf, -, hb4⟩
    obtain ⟨Af, rfl⟩ := hsf.some_of (by rw [HFR.out]; exact frB_ne y)
    have SF := Lib.hid hsf
    have SZ4 := Lib.hid (SZ.out.belowAll hb4)
    have SY4 := Lib.hid (SY3.out.belowAll hb4)
    have B4 := Lib.hid (B3.out.trans (hb4.mono B3.out.size))
    clear hsf hb4 HCF SZ SY3 B3
    go_wp2_with fail
    refine (CR.out _ SY4.out).mono ?_
    rintro e x5 ⟨v5, rfl, hown5, hb5⟩
    have h5 : x5.ownsRow x4.heap.size 5 1 v5 fr.length (u8s fr) := by rw [← HNF.out]; exact hown5
    obtain ⟨ar, cr, rfl, hsr, -⟩ := Sl.of_owns h5
    obtain ⟨Ar, rfl⟩ := hsr.some_of (by rw [HFR.out]; exact frB_ne y)
    rw [← HNF.out]
    have q1 : (convert 22 9 (.slice (some Af) nf cf)).run Tryz.prog x5 = .ok (.string ⟨fr.toArray⟩) x5 := conv_sl (SF.out.belowAll hb5) HNF.out
    have q2 : (convert 22 9 (.slice (some Ar) nf cr)).run Tryz.prog x5 = .ok (.string ⟨fr.toArray⟩) x5 := conv_sl hsr HNF.out
    have SF5 := Lib.hid (SF.out.belowAll hb5)
    have SZ5 := Lib.hid (SZ4.out.belowAll hb5)
    have B5 := Lib.hid (B4.out.trans (hb5.mono B4.out.size))
    have CZ := cuts_calls az cz z x5 SZ5.out
    rw [← HNZ.out] at CZ
    have HCZ := Lib.hid CZ
    clear hown5 h5 hsr hb5 CZ SF SZ4 SY4 B4 CR
    go_wp2_with fail
    refine HCZ.out.mono ?_
    rintro e x6 ⟨rfl, hb6⟩
    have SF6 := Lib.hid (SF5.out.belowAll hb6)
    have SZ6 := Lib.hid (SZ5.out.belowAll hb6)
    have B6 := Lib.hid (B5.out.trans (hb6.mono B5.out.size))
    clear hb6 HCZ SF5 SZ5 B5 q1 q2
    by_cases hneg : a2 < 0
    · go_wp2
      go_ret
      exact ⟨rfl, B6.out⟩
    · obtain ⟨na, rfl⟩ : ∃ n : Nat, a2 = (n : Int) := ⟨a2.toNat, by omega⟩
      have hd0 : decide ((na : Int) < 0) = false := by simp; try omega
      have HN0 := Lib.hid hnf0
      have hbd1 : (0 : Nat) + fr.length ≤ 140737488355328 := by rw [← HNF.out]; omega
      have HBD1 := Lib.hid hbd1
      clear hnf0 hbd1 hyl hneg
      go_wp2_with (at_builtin; refine append_bytes_at rfl (.const (.slice none 0 0)) (.tmp 49) rfl (.slice none 0 0) [] rfl (World.ownsRow_nil _ _ _ _) (some Af) cf fr (by rw [← HNF.out]; rfl) SF6.out HBD1.out ?_)
      intro v7 x7 hown7 hg7 hat7
      have b7 : Below x6.heap.size x6 x7 := (Below.refl _ _).grown hg7 (Nat.le_refl _) (by intro k hk; cases hk)
      have hR7 : x7.ownsRow 0 5 1 v7 fr.length (u8s fr) := by simpa using hown7
      have hv7 : ∀ g, v7.ownBlock = some g → x6.heap.size ≤ g := fun g hg => by
        rcases hat7 with h1 | h1
        · rw [h1] at hg; cases hg
        · rw [h1] at hg; cases hg; exact Nat.le_refl _
      have R7 := Lib.hid hR7
      have V7 := Lib.hid hv7
      have B67 := Lib.hid b7
      have SZ7 := Lib.hid (SZ6.out.belowAll b7)
      have HBD2 : Hid (fr.length + z.length ≤ 140737488355328) := Lib.hid (by rw [← HNF.out, ← HNZ.out]; have := HN0.out; have := HNZ.out; omega)
      clear hown7 hg7 hat7 b7 hR7 hv7
      go_wp2_with (at_builtin; refine append_bytes_at rfl (.tmp 50) (.tmp 51) rfl v7 fr rfl R7.out az cz z (by rw [← HNZ.out]; rfl) SZ7.out HBD2.out ?_)
      intro v8 x8 hown8 hg8 hat8
      have b8 : Below x6.heap.size x6 x8 := B67.out.grown hg8 B67.out.size V7.out
      obtain ⟨C, hC⟩ : ∃ C, C = fr ++ z := ⟨_, rfl⟩
      have hR8 : x8.ownsRow 0 5 1 v8 C.length (u8s C) := by rw [hC, List.length_append]; simpa using hown8
      obtain ⟨ac, cc, rfl, hsc, -⟩ := Sl.of_owns hR8
      obtain ⟨nC, hnC⟩ : ∃ n, n = C.length := ⟨_, rfl⟩
      have hnCl : nf ≤ nC ∧ nC ≤ 200 := by have h1 := HN0.out; have h2 := HNZ.out; rw [hnC, hC, List.length_append, ← HNF.out, ← HNZ.out]; omega
      have SC8 := Lib.hid hsc
      have SF8 := Lib.hid (SF6.out.belowAll b8)
      have B8 := Lib.hid (B6.out.trans (b8.mono B6.out.size))
      have HNC := Lib.hid hnC
      have HNCL := Lib.hid hnCl
      obtain ⟨kk, hkk⟩ : ∃ k, k = na % nf := ⟨_, rfl⟩
      have hklt : kk < nf := by rw [hkk]; exact Nat.mod_lt _ (by have := HN0.out; omega)
      have hm0 : na % nf = kk := hkk.symm
      have hm1 : (na : Int) % (nf : Int) = (kk : Int) := by rw [hkk]; rfl
      have hm2 : (na : Int).tmod (nf : Int) = (kk : Int) := by rw [Int.tmod_eq_emod_of_nonneg (by omega)]; exact hm1
      have HKL := Lib.hid hklt
      have hnz1 : ¬ (nf : Int) = 0 := by have := HN0.out; omega
      have hnz2 : ¬ nf = 0 := by have := HN0.out; omega
      have HBD3 : Hid ((0 : Nat) + C.length ≤ 140737488355328) := Lib.hid (by rw [← HNC.out]; omega)
      rw [← hnC]
      clear hown8 hg8 hat8 b8 hR8 hsc hnC hnCl hkk hklt hC B67 SZ6 SZ7 SF6 R7 V7
      go_wp2_with (at_builtin; refine append_bytes_at rfl (.const (.slice none 0 0)) (.tmp 57) rfl (.slice none 0 0) [] rfl (World.ownsRow_nil _ _ _ _) ac cc C (by rw [← HNC.out]; rfl) SC8.out HBD3.out ?_)
      intro v9 x9 hown9 hg9 hat9
      have b9 : Below x8.heap.size x8 x9 := (Below.refl _ _).grown hg9 (Nat.le_refl _) (by intro k hk; cases hk)
      have hR9 : x9.ownsRow 0 5 1 v9 C.length (u8s C) := by simpa using hown9
      obtain ⟨-, ⟨-, h0⟩ | ⟨gd, cd, cur, rfl, -, hgd, -⟩⟩ := id hR9
      · have := HNCL.out; have := HN0.out; have := HNC.out; omega
      have hgd8 : x8.heap.size ≤ gd := by
        rcases hat9 with h1 | h1
        · cases h1
        · exact Nat.le_of_eq (Option.some.inj h1).symm
      have hcell : x9.cell? ⟨gd, kk, none⟩ = some (.int .u8 ((C.getD kk 0).toNat : Int)) := by
        rw [hR9.cellAt kk (by have := HKL.out; have := HNCL.out; have := HNC.out; omega)]
        exact u8s_at (by have := HKL.out; have := HNCL.out; have := HNC.out; omega)
      have hfz := hR9.frozenAt kk
      obtain ⟨p, hp⟩ : ∃ p, p = (C.getD kk 0).toNat := ⟨_, rfl⟩
      rw [← hp] at hcell
      clear hp
      obtain ⟨Z, hZ⟩ : ∃ Z, Z = bits .xor .u8 (p : Int) a3 := ⟨_, rfl⟩
      have hZb := xor_byte (p : Int) a3
      rw [← hZ] at hZb
      obtain ⟨D, hD⟩ : ∃ D, D = C.set kk (UInt8.ofNat Z.toNat) := ⟨_, rfl⟩
      have hDl : D.length = nC := by rw [hD, List.length_set, HNC.out]
      obtain ⟨x10, hx10⟩ : ∃ x, x = x9.setCell ⟨gd, kk, none⟩ (.int .u8 Z) := ⟨_, rfl⟩
      have hR10 : x10.ownsRow 0 5 1 (.slice (some ⟨gd, 0, none⟩) C.length cd) D.length (u8s D) := by
        have h1 := (hR9.stored kk (.int .u8 Z)).1
        rw [← hx10] at h1
        rw [hDl, HNC.out]
        have e : u8s D = (u8s C).set kk (.int .u8 Z) := by
          rw [hD]
          unfold u8s
          rw [List.map_set, u8_ofNat hZb.1 hZb.2]
        rw [e]
        exact h1
      have t10 : Turn [gd] x9 x10 := by rw [hx10]; exact Turn.setCell x9 (by simp) _
      have t810 : Turn [] x8 x10 := (Turn.of_below b9 []).trans t10 (fun i hi => .inr (by simp at hi; omega))
      have SC10 := Lib.hid (SC8.out.turn t810 (by simp))
      have SF10 := Lib.hid (SF8.out.turn t810 (by simp))
      have B10 := Lib.hid (B8.out.trans (t810.belowAll.mono B8.out.size))
      have SD10 : Hid (Sl x10 (some ⟨gd, 0, none⟩) cd D) := Lib.hid (by
        rw [show C.length = D.length by rw [hDl, HNC.out]] at hR10
        obtain ⟨a, c, he, hs, -⟩ := Sl.of_owns hR10
        injection he with e1 e2 e3
        subst e1 e3
        exact hs)
      have HX10 := Lib.hid hx10
      have HZ := Lib.hid hZ
      have HDL := Lib.hid hDl
      have hik : (kk : Int) < (nC : Int) := by have := HKL.out; have := HNCL.out; omega
      have CC := cuts_calls ac cc C x10 SC10.out
      rw [← HNC.out] at CC ⊢
      have HCC := Lib.hid CC
      have hcx : kk ≤ cf := by have h1 := SF10.out.le.1; rw [← HNF.out] at h1; have := HKL.out; omega
      have hcx2 : (kk : Int) ≤ (cf : Int) := by omega
      clear hown9 hg9 hat9 b9 hR9 hgd hgd8 hZb hD hDl hR10 t10 t810 SC8 SF8 B8 hx10 hZ CC
      go_wp2_with fail
      rw [← HZ.out, ← HX10.out]
      refine HCC.out.mono ?_
      rintro e x11 ⟨rfl, hb11⟩
      have CD := cuts_calls (some ⟨gd, 0, none⟩) cd D x11 (SD10.out.belowAll hb11)
      rw [HDL.out] at CD
      have HCD := Lib.hid CD
      have SF11 := Lib.hid (SF10.out.belowAll hb11)
      have B11 := Lib.hid (B10.out.trans (hb11.mono B10.out.size))
      clear hb11 CD HCC SF10 SD10 SC10
      go_wp2_with fail
      refine HCD.out.mono ?_
      rintro e x12 ⟨rfl, hb12⟩
      have CE := cuts_calls (some Af) cf (fr.take kk) x12 ((SF11.out.belowAll hb12).front kk)
      rw [show (fr.take kk).length = kk by rw [List.length_take, ← HNF.out]; have := HKL.out; omega] at CE
      have HCE := Lib.hid CE
      have B12 := Lib.hid (B11.out.trans (hb12.mono B11.out.size))
      clear hb12 CE HCD SF11
      go_wp2_with fail
      refine HCE.out.mono ?_
      rintro e x13 ⟨rfl, hb13⟩
      have B13 := Lib.hid (B12.out.trans (hb13.mono B12.out.size))
      clear hb13
      go_wp2
      go_ret
      exact ⟨rfl, B13.out⟩
  · have hok' : okF y = false := by simpa using hok
    have CF := frame_none ay cy y x3 hok'
    have CR := Lib.hid (fun (wx : World) => refFrame_none ay cy y wx hok')
    rw [← hny] at CF CR
    rw [← hny, ← hnz]
    have HCF := Lib.hid CF
    clear CF hok hok' hny hnz
    go_wp2_with fail
    refine HCF.out.mono ?_
    rintro e x4 ⟨rfl, rfl⟩
    go_wp2_with fail
    refine (CR.out _).mono ?_
    rintro e x5 ⟨rfl, rfl⟩
    have q1 : ∀ wx : World, (convert 22 9 (.slice none 0 0)).run Tryz.prog wx = .ok (.string ⟨([] : List UInt8).toArray⟩) wx := fun wx => conv_sl (Sl.nil wx) rfl
    have CZ := cuts_calls az cz z _ SZ.out
    rw [← HNZ.out] at CZ
    have HCZ := Lib.hid CZ
    clear CZ
    go_wp2_with fail
    refine HCZ.out.mono ?_
    rintro e x6 ⟨rfl, hb6⟩
    have B6 := Lib.hid (B3.out.trans (hb6.mono B3.out.size))
    clear hb6
    go_wp2
    go_ret
    exact ⟨rfl, B6.out⟩

end Go.Proofs.YtgachdaphdjddaaGreatDoor
