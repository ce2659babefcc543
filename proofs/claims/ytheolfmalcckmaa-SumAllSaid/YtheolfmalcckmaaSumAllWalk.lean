/-
  The walk of the law SumAll.
-/
import Derived.Test.YtheolfmalcckmaaRefSum
import Derived.Test.YtheolfmalcckmaaShort
namespace Go.Proofs.Ytheolfmalcckmaa
open Go.RowKit

theorem take80 (l : List UInt8) : (l.take 80).length ≤ 80 := by simp; omega

/-- 'append([]byte(nil), x...)' and 'append(.., y...)' behind it: what comes of two appends, as a fact. -/
theorem owns_sl {w : World} {B : Nat} {v : Value} {l : List UInt8} {n : Nat} (h : w.ownsRow B 5 1 v n (u8s l)) : ∃ ao c, v = .slice ao l.length c ∧ Sl w ao c l := by
  obtain ⟨ao, c, h1, h2, _⟩ := Sl.of_owns h
  exact ⟨ao, c, h1, h2⟩

set_option maxHeartbeats 3000000 in
set_option maxRecDepth 100000 in
theorem sumAll_walk (a0 : Option Addr) (c0 : Nat) (l0 : List UInt8) (w : World) (h0 : Sl w a0 c0 l0) (a1 : Option Addr) (c1 : Nat) (l1 : List UInt8) (h1 : Sl w a1 c1 l1) :
    Calls Try.prog 7 #[.slice a0 l0.length c0, .slice a1 l1.length c1] w fun e w' => e = .returned (.bool true) ∧ Below w.heap.size w w' := by
  have H0 := Lib.hid h0
  have H1 := Lib.hid h1
  clear h0 h1
  go_enter Try.func7, Try.ntmps7
  go_wp2_with fail
  refine (begun_calls _).mono ?_
  rintro e w1 ⟨rfl, hb1⟩
  have B1 := Lib.hid hb1
  clear hb1
  go_wp2_with fail
  refine (short_named a0 c0 80 l0 _ (H0.out.belowAll B1.out) (by omega)).mono ?_
  rintro e w2 ⟨ax, cx, x, rfl, hx, hs2, hb2⟩
  have B2 := Lib.hid (B1.out.trans (hb2.mono B1.out.size))
  have SX2 := Lib.hid hs2
  clear hb2 hs2 B1
  go_wp2_with fail
  refine (short_named a1 c1 80 l1 _ (H1.out.belowAll B2.out) (by omega)).mono ?_
  rintro e w3 ⟨ay, cy, y, rfl, hy, hs3, hb3⟩
  have B3 := Lib.hid (B2.out.trans (hb3.mono B2.out.size))
  have SX := Lib.hid (SX2.out.belowAll hb3)
  have SY := Lib.hid hs3
  clear hb3 hs3 B2 SX2 H0 H1
  have hx80 : x.length ≤ 80 := by rw [hx.out]; exact take80 l0
  have hy80 : y.length ≤ 80 := by rw [hy.out]; exact take80 l1
  have hz3 := B3.out.size
  go_wp2_with (at_builtin; refine append_bytes rfl (.const (.slice none 0 0)) (.tmp 16) rfl w3.heap.size (.slice none 0 0) [] rfl (World.ownsRow_nil _ _ _ _) ax cx x rfl SX.out (by simp; omega) (Nat.le_refl _) ?_)
  intro v4 w4 hown4 hg4 _
  have B4 := Lib.hid (B3.out.grown hg4 hz3 (by intro k hk; cases hk))
  have N4 := Lib.hid ((Below.refl w3.heap.size w3).grown hg4 (Nat.le_refl _) (by intro k hk; cases hk))
  have O4 := Lib.hid hown4
  clear hown4 hg4
  have SY4 := Lib.hid (SY.out.belowAll N4.out)
  go_wp2_with (at_builtin; refine append_bytes rfl (.tmp 17) (.tmp 18) rfl w3.heap.size v4 x rfl O4.out ay cy y rfl SY4.out (by omega) N4.out.size ?_)
  intro v5 w5 hown5 hg5 _
  have N5 := Lib.hid (N4.out.grown hg5 N4.out.size (fun k hk => (O4.out.lt k hk).1))
  have B5 := Lib.hid (B3.out.trans (N5.out.mono hz3))
  obtain ⟨a5, c5, hv5, hs5⟩ := owns_sl hown5
  subst hv5
  have S5 := Lib.hid hs5
  have SX5 := Lib.hid (SX.out.belowAll N5.out)
  have SY5 := Lib.hid (SY.out.belowAll N5.out)
  clear hown5 hg5 hs5 O4 N4 B4 SY4 N5
  go_wp2_with fail
  have hxy : (x ++ y).length ≤ 1000000000 := by simp; omega
  have C := refSum_any a5 c5 (x ++ y) w5 hxy S5.out
  rw [List.length_append] at C
  refine C.mono ?_
  clear C S5
  rintro e w6 ⟨rfl, hb6⟩
  have hz5 := B5.out.size
  have B6 := Lib.hid (B5.out.trans (hb6.mono hz5))
  have SX6 := Lib.hid (SX5.out.belowAll hb6)
  have SY6 := Lib.hid (SY5.out.belowAll hb6)
  have HSum := Lib.hid (sumOn_append 0 x y)
  have hsl := sumOn_lt 0 (x ++ y)
  have hslx := sumOn_lt 0 x
  clear hb6 B5 SX5 SY5 B3 SX SY hxy
  generalize hE : sumOn 0 (x ++ y) = sxy at *
  have HE := Lib.hid hE
  clear hE
  go_wp2_with fail
  go_loop [7, 8] (fun v i => ∃ k : Nat, k ≤ x.length ∧ i = .int .i64 k ∧ v = .int .u32 (onN 4294967295 (x.take k) : Nat)) (fun _ i => x.length - (intOf i).toNat)
  case atStart => exact ⟨0, by omega, rfl, rfl⟩
  case round =>
    obtain ⟨k, hk, rfl, rfl⟩ := hrel
    obtain ⟨t, ht⟩ : ∃ t, t = onN 4294967295 (x.take k) := ⟨_, rfl⟩
    have htl : t < 4294967296 := by rw [ht]; exact onN_lt _ (by omega)
    rw [← ht]
    have HT := Lib.hid ht
    clear ht
    by_cases hlt : k < x.length
    · obtain ⟨g, off, hax, hg, hc⟩ := SX6.out.row.at (by intro e; subst e; simp at hlt)
      subst hax
      have hck := hc k hlt
      have hb := (x.getD k 0).toNat_lt
      have HS := Lib.hid (show onN 4294967295 (x.take (k + 1)) = byteN t (x.getD k 0).toNat by
        rw [List.take_succ_eq_append_getElem hlt, onN_snoc, ← HT.out]
        simp [List.getD, hlt])
      generalize (x.getD k 0).toNat = xb at hck hb HS
      clear hc
      go_wp2_with (go_at_call 43; refine (bits_calls t xb _ htl (by omega)).mono ?_; rintro e w' ⟨rfl, rfl⟩)
      go_round
      case rel => exact ⟨k + 1, by omega, by go_num, by rw [HS.out]⟩
      case measure => simp [intOf]; omega
    · obtain rfl : k = x.length := by omega
      have HX := Lib.hid (show sumOn 0 x = notN t by rw [HT.out, List.take_length]; rfl)
      have hnt : bits .xor .u32 IntKind.u32.max (t : Int) = ((notN t : Nat) : Int) := by
        rw [show IntKind.u32.max = ((4294967295 : Nat) : Int) from rfl, u32_xor_nat _ t (by omega) htl]
        exact congrArg _ (xor_all htl)
      have hz6 := B6.out.size
      clear HT
      go_wp2_with (at_builtin; refine append_bytes rfl (.const (.slice none 0 0)) (.tmp 33) rfl w6.heap.size (.slice none 0 0) [] rfl (World.ownsRow_nil _ _ _ _) ax cx x rfl SX6.out (by simp; omega) (Nat.le_refl _) ?_)
      intro v7 w7 hown7 hg7 _
      have N7 := Lib.hid ((Below.refl w6.heap.size w6).grown hg7 (Nat.le_refl _) (by intro k hk; cases hk))
      have O7 := Lib.hid hown7
      clear hown7 hg7
      have SY7 := Lib.hid (SY6.out.belowAll N7.out)
      go_wp2_with (at_builtin; refine append_bytes rfl (.tmp 34) (.tmp 35) rfl w6.heap.size v7 x rfl O7.out ay cy y rfl SY7.out (by omega) N7.out.size ?_)
      intro v8 w8 hown8 hg8 _
      have N8 := Lib.hid (N7.out.grown hg8 N7.out.size (fun k hk => (O7.out.lt k hk).1))
      obtain ⟨a8, c8, hv8, hs8⟩ := owns_sl hown8
      subst hv8
      have S8 := Lib.hid hs8
      have B8 := Lib.hid (B6.out.trans (N8.out.mono hz6))
      have SX8 := Lib.hid (SX6.out.belowAll N8.out)
      have SY8 := Lib.hid (SY6.out.belowAll N8.out)
      clear hown8 hg8 hs8 O7 N7 SY7 N8 SX6 SY6 B6
      go_wp2_with fail
      have C8 := of_calls a8 c8 (x ++ y) w8 (by simp; omega) S8.out.row
      rw [List.length_append, HE.out] at C8
      refine C8.mono ?_
      clear C8 S8
      rintro e w' ⟨rfl, rfl⟩
      have CX := of_calls ax cx x w8 (by omega) SX8.out.row
      rw [HX.out] at CX
      have DX := Lib.hid CX
      clear CX
      go_wp2_with fail
      refine DX.out.mono ?_
      rintro e w' ⟨rfl, rfl⟩
      have CY := on_calls (notN t) ay cy y w8 (notN_lt t) (by omega) SY8.out.row
      rw [← HX.out, ← HSum.out, HX.out] at CY
      have DY := Lib.hid CY
      clear CY
      go_wp2_with fail
      refine DY.out.mono ?_
      rintro e w' ⟨rfl, rfl⟩
      go_wp2_with fail
      refine DX.out.mono ?_
      rintro e w' ⟨rfl, rfl⟩
      go_wp2_with fail
      refine DX.out.mono ?_
      rintro e w' ⟨rfl, rfl⟩
      have CR := refSum_any ax cx x w8 (by omega) SX8.out
      rw [HX.out] at CR
      have DR := Lib.hid CR
      clear CR
      go_wp2_with fail
      refine DR.out.mono ?_
      rintro e w9 ⟨rfl, hb9⟩
      have B9 := Lib.hid (B8.out.trans (hb9.mono B8.out.size))
      clear hb9
      go_wp2
      go_ret
      exact ⟨rfl, B9.out⟩

end Go.Proofs.Ytheolfmalcckmaa
