/-
  The walk of the law SumTurn.
-/
import Derived.Test.YtheolfmalcckmaaOpen
import Derived.Test.YtheolfmalcckmaaShort
import Derived.Test.YtheolfmalcckmaaTurnMath
namespace Go.Proofs.Ytheolfmalcckmaa
open Go.RowKit Go.ChangeShapes Go.WideShapes Go.ChangeAt

theorem bit32_is (x j : Nat) (hx : x < 4294967296) : (bits .and .u32 ((x : Int) / 2 ^ j) 1 == 1) = x.testBit j := by
  have hlt : x / 2 ^ j < 4294967296 := Nat.lt_of_le_of_lt (Nat.div_le_self _ _) hx
  have h := u32_and_nat (x / 2 ^ j) 1 hlt (by omega)
  rw [nat_mask1, Int.natCast_ediv, Int.natCast_pow] at h
  rw [show ((2 : Nat) : Int) = 2 from rfl, show ((1 : Nat) : Int) = 1 from rfl] at h
  rw [h, Nat.testBit_eq_decide_div_mod_eq]
  generalize x / 2 ^ j = y
  rw [Bool.eq_iff_iff]
  simp only [beq_iff_eq, decide_eq_true_eq]
  omega

theorem xor8_step (yb j : Nat) (hb : yb < 256) (hj : j < 8) : bits .xor .u8 (yb : Int) ((2 : Int) ^ j % 256) = ((yb ^^^ 2 ^ j : Nat) : Int) := by
  have hp : 2 ^ j < 256 := Nat.pow_lt_pow_of_lt (a := 2) (by omega) hj
  have e : (2 : Int) ^ j % 256 = ((2 ^ j : Nat) : Int) := by
    rw [show (2 : Int) ^ j = ((2 ^ j : Nat) : Int) by rw [Int.natCast_pow]; rfl]
    exact Int.emod_eq_of_lt (Int.natCast_nonneg _) (Int.ofNat_lt.2 hp)
  rw [e, u8_xor_nat _ _ hb hp]

theorem turn_end {sx sy : Nat} {t : Bool} (h : sx = sy ↔ t = false) : (((sx : Int) != (sy : Int)) == t) = true := by
  cases t
  · have := h.2 rfl
    simp [this]
  · have : sx ≠ sy := fun e => by have := h.1 e; cases this
    simp
    omega

theorem u8s_flip (y : List UInt8) (i : Nat) : u8s (flip y i) = (u8s y).set (i / 8) (.int .u8 (((y.getD (i / 8) 0).toNat ^^^ 2 ^ (i % 8) : Nat) : Int)) := by
  have hlt : (y.getD (i / 8) 0).toNat ^^^ 2 ^ (i % 8) < 256 := by
    refine Nat.xor_lt_two_pow (n := 8) ?_ ?_
    · have := (y.getD (i / 8) 0).toNat_lt; omega
    · exact Nat.pow_lt_pow_of_lt (a := 2) (by omega) (Nat.mod_lt _ (by omega))
  unfold u8s flip
  rw [List.map_set, UInt8.toNat_ofNat', Nat.mod_eq_of_lt hlt]

set_option maxHeartbeats 3000000 in
set_option maxRecDepth 100000 in
theorem sumTurn_nat (a0 : Option Addr) (c0 : Nat) (l0 : List UInt8) (w : World) (h0 : Sl w a0 c0 l0) (at0 β : Nat) (hat : at0 ≤ 9223372036854775807) (hβ : β < 4294967296) :
    Calls Try.prog 8 #[.slice a0 l0.length c0, .int .i64 (at0 : Int), .int .u32 (β : Int)] w fun e w' => e = .returned (.bool true) ∧ Below w.heap.size w w' := by
  have H0 := Lib.hid h0
  clear h0
  go_enter Try.func8, Try.ntmps8
  go_wp2_with fail
  refine (begun_calls _).mono ?_
  rintro e w1 ⟨rfl, hb1⟩
  have B1 := Lib.hid hb1
  clear hb1
  go_wp2_with fail
  refine (short_named a0 c0 80 l0 _ (H0.out.belowAll B1.out) (by omega)).mono ?_
  rintro e w2 ⟨ax, cx, x, rfl, hx, hs2, hb2⟩
  have B2 := Lib.hid (B1.out.trans (hb2.mono B1.out.size))
  have hx80 : x.length ≤ 80 := by rw [hx.out]; simp; omega
  by_cases hne : x = []
  · subst hne
    clear hs2 hb2 hx H0
    go_wp2_with fail
    go_ret
    exact ⟨rfl, B2.out⟩
  obtain ⟨g0, off0, hax, hg0, _⟩ := hs2.row.at hne
  subst hax
  have SX := Lib.hid hs2
  have hpos : 0 < x.length := List.length_pos_iff.2 hne
  have HNE := Lib.hid hne
  clear hs2 hb2 B1 H0 hne
  have hz2 := B2.out.size
  have hlz : ((x.length : Int) == 0) = false := beq_eq_false_iff_ne.2 (by omega)
  obtain ⟨m, hm⟩ : ∃ m : Nat, m = at0 % (8 * x.length) := ⟨_, rfl⟩
  have hmi : (at0 : Int) % (8 * (x.length : Int)) = (m : Int) := by rw [hm, Int.natCast_emod, Int.natCast_mul]; rfl
  have hm8 : m < 8 * x.length := by rw [hm]; exact Nat.mod_lt _ (show 0 < 8 * x.length by omega)
  clear hm
  go_wp2_with (at_builtin; refine append_bytes rfl (.const (.slice none 0 0)) (.tmp 23) rfl w2.heap.size (.slice none 0 0) [] rfl (World.ownsRow_nil _ _ _ _) _ cx x rfl SX.out (by simp; omega) (Nat.le_refl _) ?_)
  intro v3 w3 hown3 hg3 hv3
  have N3 := Lib.hid ((Below.refl w2.heap.size w2).grown hg3 (Nat.le_refl _) (by intro k hk; cases hk))
  obtain ⟨g, cap, hv, hgB⟩ : ∃ g cap, v3 = .slice (some ⟨g, 0, none⟩) x.length cap ∧ w2.heap.size ≤ g := by
    rcases hown3.2 with ⟨_, hz⟩ | ⟨g, cap, cur, h1, h2, _⟩
    · omega
    · exact ⟨g, cap, h1, h2⟩
  subst hv
  have O3 := Lib.hid hown3
  clear hown3 hg3 hv3 hx
  go_wp2_with fail
  rw [hmi]
  have HMI := Lib.hid hmi
  clear hmi
  go_loopw [9, 10] (fun tv i wr => ∃ (k : Nat) (y : List UInt8), k ≤ 32 ∧ m + k ≤ 8 * x.length ∧ i = .int .i64 k ∧ tv = .bool (trn β k) ∧ y.length = x.length ∧
      wr.ownsRow w2.heap.size 5 1 (.slice (some ⟨g, 0, none⟩) x.length cap) x.length (u8s y) ∧ (∀ i, bitOf y i = (bitOf x i != dif m β k i)) ∧ Below w2.heap.size w2 wr) (fun _ i _ => 32 - (intOf i).toNat)
  case atStart => exact ⟨0, x, by omega, by omega, rfl, rfl, rfl, O3.out, fun i => by rw [dif_zero]; simp, N3.out⟩
  case round =>
    obtain ⟨k, y, hk, hmk, rfl, rfl, hyl, hown, hbit, hbel⟩ := hrel
    have HO := Lib.hid hown
    have HBit := Lib.hid hbit
    have HB := Lib.hid hbel
    have HL := Lib.hid hyl
    clear hown hbit hbel hyl
    by_cases hlt : k < 32 ∧ m + k < 8 * x.length
    · obtain ⟨hlt1, hlt2⟩ := hlt
      have hlt2' : (m : Int) + (k : Int) < 8 * (x.length : Int) := by omega
      have hb := bit32_is β k hβ
      by_cases hbk : β.testBit k = true
      · rw [hbk] at hb
        have hcell := HO.out.cellAt ((m + k) / 8) (by omega)
        rw [u8s_at (by rw [HL.out]; omega)] at hcell
        have hfr := HO.out.frozenAt ((m + k) / 8)
        have hb256 : (y.getD ((m + k) / 8) 0).toNat < 256 := by have := (y.getD ((m + k) / 8) 0).toNat_lt; omega
        have hx8 := xor8_step (y.getD ((m + k) / 8) 0).toNat ((m + k) % 8) hb256 (Nat.mod_lt _ (by omega))
        have HF : Hid (wr.setCell ⟨g, (m + k) / 8, none⟩ (.int .u8 (((y.getD ((m + k) / 8) 0).toNat ^^^ 2 ^ ((m + k) % 8) : Nat) : Int)) |>.ownsRow w2.heap.size 5 1 (.slice (some ⟨g, 0, none⟩) x.length cap) x.length (u8s (flip y (m + k)))) := by
          have h := HO.out.stored ((m + k) / 8) (.int .u8 (((y.getD ((m + k) / 8) 0).toNat ^^^ 2 ^ ((m + k) % 8) : Nat) : Int))
          rw [show u8s (flip y (m + k)) = (u8s y).set ((m + k) / 8) (.int .u8 (((y.getD ((m + k) / 8) 0).toNat ^^^ 2 ^ ((m + k) % 8) : Nat) : Int)) from u8s_flip y (m + k)]
          exact h.1
        have HBitF := Lib.hid (fun i => (flip_bit y (m + k) (by rw [HL.out]; omega) i))
        generalize (y.getD ((m + k) / 8) 0).toNat = yb at *
        generalize yb ^^^ 2 ^ ((m + k) % 8) = nb at *
        clear hb256
        go_wp2
        go_roundw
        case rel =>
          refine ⟨k + 1, flip y (m + k), by omega, by omega, by go_num, by rw [trn, hbk, Bool.or_true], (flip_length _ _).trans HL.out, HF.out, fun i => ?_, HB.out.setCell (by exact hgB) _⟩
          rw [HBitF.out i, HBit.out i, dif_succ, hbk, Bool.and_true]
          cases bitOf x i <;> cases dif m β k i <;> cases decide (i = m + k) <;> rfl
        case measure => simp [intOf]; omega
      · have hbf : β.testBit k = false := by simpa using hbk
        rw [hbf] at hb
        go_wp2
        go_roundw
        case rel =>
          refine ⟨k + 1, y, by omega, by omega, by go_num, by rw [trn, hbf, Bool.or_false], HL.out, HO.out, fun i => ?_, HB.out⟩
          rw [HBit.out i, dif_succ, hbf, Bool.and_false]
          simp
        case measure => simp [intOf]; omega
    · have hSX := SX.out.belowAll HB.out
      have CX := Lib.hid (of_calls _ cx x wr (by omega) hSX.row)
      obtain ⟨ay, cy, hy, hsy, _⟩ := Sl.of_owns HO.out
      injection hy with hy1 hy2 hy3
      subst hy1 hy3
      have CY0 := of_calls _ cap y wr (by rw [HL.out]; omega) hsy.row
      rw [HL.out] at CY0
      have CY := Lib.hid CY0
      have HT := Lib.hid (turn_sums x y m β k HL.out hk hmk HBit.out)
      clear hSX hsy CY0 hy2
      generalize sumOn 0 x = sx at *
      generalize sumOn 0 y = sy at *
      by_cases hk32 : k < 32
      · have hge : 8 * (x.length : Int) ≤ (m : Int) + (k : Int) := by omega
        go_wp2_with fail
        refine CX.out.mono ?_
        rintro e w' ⟨rfl, rfl⟩
        go_wp2_with fail
        refine CY.out.mono ?_
        rintro e w' ⟨rfl, rfl⟩
        go_wp2
        go_ret
        exact ⟨ret_bool (turn_end HT.out), B2.out.trans (HB.out.mono hz2)⟩
      · have hge : (32 : Int) ≤ (k : Int) := by omega
        go_wp2_with fail
        refine CX.out.mono ?_
        rintro e w' ⟨rfl, rfl⟩
        go_wp2_with fail
        refine CY.out.mono ?_
        rintro e w' ⟨rfl, rfl⟩
        go_wp2
        go_ret
        exact ⟨ret_bool (turn_end HT.out), B2.out.trans (HB.out.mono hz2)⟩

theorem sumTurn_neg (a0 : Option Addr) (c0 : Nat) (l0 : List UInt8) (w : World) (h0 : Sl w a0 c0 l0) (at0 : Int) (β : Int) (hneg : at0 < 0) :
    Calls Try.prog 8 #[.slice a0 l0.length c0, .int .i64 at0, .int .u32 β] w fun e w' => e = .returned (.bool true) ∧ Below w.heap.size w w' := by
  have H0 := Lib.hid h0
  clear h0
  go_enter Try.func8, Try.ntmps8
  go_wp2_with fail
  refine (begun_calls _).mono ?_
  rintro e w1 ⟨rfl, hb1⟩
  have B1 := Lib.hid hb1
  clear hb1
  go_wp2_with fail
  refine (short_named a0 c0 80 l0 _ (H0.out.belowAll B1.out) (by omega)).mono ?_
  rintro e w2 ⟨ax, cx, x, rfl, hx, hs2, hb2⟩
  have B2 := Lib.hid (B1.out.trans (hb2.mono B1.out.size))
  clear hx hs2 hb2
  by_cases hz : x.length = 0
  · have hlz : ((x.length : Int) == 0) = true := beq_iff_eq.2 (by omega)
    go_wp2_with fail
    go_ret
    exact ⟨rfl, B2.out⟩
  · have hlz : ((x.length : Int) == 0) = false := beq_eq_false_iff_ne.2 (by omega)
    go_wp2_with fail
    go_ret
    exact ⟨rfl, B2.out⟩

theorem sumTurn_walk (a0 : Option Addr) (c0 : Nat) (l0 : List UInt8) (w : World) (h0 : Sl w a0 c0 l0) (at0 : Int) (w1 : (Lit.int .i64 at0).wf = true) (β : Int) (w2 : (Lit.int .u32 β).wf = true) :
    Calls Try.prog 8 #[.slice a0 l0.length c0, .int .i64 at0, .int .u32 β] w fun e w' => e = .returned (.bool true) ∧ Below w.heap.size w w' := by
  have h1 := bounds_i64 w1
  have h2 := bounds_u32 w2
  by_cases hneg : at0 < 0
  · exact sumTurn_neg a0 c0 l0 w h0 at0 β hneg
  · obtain ⟨m, rfl⟩ := Int.eq_ofNat_of_zero_le (show 0 ≤ at0 by omega)
    obtain ⟨b, rfl⟩ := Int.eq_ofNat_of_zero_le h2.1
    exact sumTurn_nat a0 c0 l0 w h0 m b (by omega) (by omega)

end Go.Proofs.Ytheolfmalcckmaa
