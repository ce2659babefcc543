/-
  The walk of the law SegNames.
-/
import Derived.Test.YtibkahpbgeljeaaDoorBegun4
namespace Go.Proofs.YtibkahpbgeljeaaDoor
open Go.RowKit

theorem name_none (n : Int) (w : World) (h : (decide (0 ≤ n) && decide (n ≤ 999)) = false) :
    Calls Tryd.prog 7 #[.int .i64 n] w fun e w' => e = .returned (.string ⟨#[]⟩) ∧ w = w' := by
  have CM := mayNumber_calls n w
  rw [h] at CM
  have HM := Lib.hid CM
  clear CM h
  go_enter Tryd.func7, Tryd.ntmps7
  go_wp2_with fail
  refine HM.out.mono ?_
  rintro e w' ⟨rfl, rfl⟩
  go_wp2
  go_ret
  exact ⟨rfl, rfl⟩

theorem log_three (n : Nat) : ([108, 111, 103] : List UInt8) ++ [UInt8.ofNat (48 + n / 100), UInt8.ofNat (48 + n / 10 % 10), UInt8.ofNat (48 + n % 10)] = segName n := rfl

theorem cat_three (x1 x2 x3 : UInt8) : (([108, 111, 103, x1, x2, x3] : List UInt8) == ((⟨#[108, 111, 103]⟩ : ByteArray) ++ ⟨#[x1, x2, x3]⟩).toList) = true := by
  have h : (⟨#[108, 111, 103]⟩ : ByteArray) ++ ⟨#[x1, x2, x3]⟩ = ⟨#[108, 111, 103, x1, x2, x3]⟩ := ByteArray.mk_append_mk [108, 111, 103] [x1, x2, x3]
  rw [h, show (⟨#[108, 111, 103, x1, x2, x3]⟩ : ByteArray).toList = [108, 111, 103, x1, x2, x3] from ByteArray.toList_mk [108, 111, 103, x1, x2, x3]]
  simp

theorem wrap_small {z : Int} (h : 0 ≤ z ∧ z ≤ 1000) : IntKind.wrap .i64 z = z := by
  unfold IntKind.wrap
  simp [IntKind.signed, IntKind.bits]
  omega

theorem wrap_digit {y : Nat} (h : (y : Int) ≤ 9) : IntKind.wrap .i64 (48 + (y : Int)) = 48 + (y : Int) := wrap_small (by omega)

theorem wrap_byte {y : Nat} (h : (y : Int) ≤ 9) : IntKind.wrap .u8 (48 + (y : Int)) = 48 + (y : Int) := by
  unfold IntKind.wrap
  simp [IntKind.signed, IntKind.bits]
  omega

theorem u8_digit {y : Nat} (h : (y : Int) ≤ 9) : (((UInt8.ofNat (48 + y)).toNat : Nat) : Int) = 48 + (y : Int) := by
  have h2 : 48 + y < 256 := by omega
  rw [UInt8.toNat_ofNat_of_lt' h2]
  omega

theorem three_sl (wx : World) {y1 y2 y3 : Nat} {x1 x2 x3 : UInt8} (h1 : ((x1.toNat : Nat) : Int) = 48 + (y1 : Int)) (h2 : ((x2.toNat : Nat) : Int) = 48 + (y2 : Int)) (h3 : ((x3.toNat : Nat) : Int) = 48 + (y3 : Int)) :
    Sl (wx.alloc (.cells #[.int .u8 (48 + (y1 : Int)), .int .u8 (48 + (y2 : Int)), .int .u8 (48 + (y3 : Int))] 5)) (some ⟨wx.heap.size, 0, none⟩) 3 [x1, x2, x3] := by
  refine .inr ⟨_, rfl, Nat.le_refl 3, (by unfold maxLen; decide : (3 : Nat) ≤ maxLen), fun i hi => ?_⟩
  rw [← h1, ← h2, ← h3]
  match i, hi with
  | 0, _ => exact cell_of_row _ _ _ _ _ _ (heap_alloc_new wx _)
  | 1, _ => exact cell_of_row _ _ _ _ _ _ (heap_alloc_new wx _)
  | 2, _ => exact cell_of_row _ _ _ _ _ _ (heap_alloc_new wx _)

theorem three_text (wx : World) {y1 y2 y3 : Nat} {x1 x2 x3 : UInt8} (h1 : ((x1.toNat : Nat) : Int) = 48 + (y1 : Int)) (h2 : ((x2.toNat : Nat) : Int) = 48 + (y2 : Int)) (h3 : ((x3.toNat : Nat) : Int) = 48 + (y3 : Int)) :
    (convert 24 9 (.slice (some ⟨wx.heap.size, 0, none⟩) 3 3)).run Tryd.prog (wx.alloc (.cells #[.int .u8 (48 + (y1 : Int)), .int .u8 (48 + (y2 : Int)), .int .u8 (48 + (y3 : Int))] 5)) = .ok (.string ⟨#[x1, x2, x3]⟩) (wx.alloc (.cells #[.int .u8 (48 + (y1 : Int)), .int .u8 (48 + (y2 : Int)), .int .u8 (48 + (y3 : Int))] 5)) :=
  conv_sl (three_sl wx h1 h2 h3) rfl

theorem three_later (wx : World) {w' : World} {y1 y2 y3 : Nat} {x1 x2 x3 : UInt8} (h1 : ((x1.toNat : Nat) : Int) = 48 + (y1 : Int)) (h2 : ((x2.toNat : Nat) : Int) = 48 + (y2 : Int)) (h3 : ((x3.toNat : Nat) : Int) = 48 + (y3 : Int)) (hb : Below (wx.alloc (.cells #[.int .u8 (48 + (y1 : Int)), .int .u8 (48 + (y2 : Int)), .int .u8 (48 + (y3 : Int))] 5)).heap.size (wx.alloc (.cells #[.int .u8 (48 + (y1 : Int)), .int .u8 (48 + (y2 : Int)), .int .u8 (48 + (y3 : Int))] 5)) w') :
    (convert 24 9 (.slice (some ⟨wx.heap.size, 0, none⟩) 3 3)).run Tryd.prog w' = .ok (.string ⟨#[x1, x2, x3]⟩) w' :=
  conv_sl ((three_sl wx h1 h2 h3).belowAll hb) rfl

set_option maxHeartbeats 4000000 in
set_option maxRecDepth 100000 in
theorem segNames_walk (n : Int) (w : World) (ht : Tab w) : Calls Tryd.prog 3 #[.int .i64 n] w fun e w' => e = .returned (.bool true) ∧ Below w.heap.size w w' := by
  have HT := Lib.hid ht
  clear ht
  by_cases h0 : n < 0
  · have a0 : decide (n < 0) = true := by simpa using h0
    go_enter Tryd.func3, Tryd.ntmps3
    go_wp2_with fail
    refine (begun4_calls _ HT.out).mono ?_
    rintro e w1 ⟨rfl, hb⟩
    have B1 := Lib.hid hb
    clear hb
    go_wp2_with fail
    refine (name_none n _ (by simp; omega)).mono ?_
    rintro e w' ⟨rfl, rfl⟩
    go_wp2
    go_ret
    exact ⟨rfl, B1.out⟩
  · by_cases h9 : 999 < n
    · have a0 : decide (n < 0) = false := by simpa using h0
      have a9 : decide (999 < n) = true := by simpa using h9
      go_enter Tryd.func3, Tryd.ntmps3
      go_wp2_with fail
      refine (begun4_calls _ HT.out).mono ?_
      rintro e w1 ⟨rfl, hb⟩
      have B1 := Lib.hid hb
      clear hb
      go_wp2_with fail
      refine (name_none n _ (by simp; omega)).mono ?_
      rintro e w' ⟨rfl, rfl⟩
      go_wp2
      go_ret
      exact ⟨rfl, B1.out⟩
    · obtain ⟨k, rfl⟩ : ∃ k : Nat, n = (k : Int) := ⟨n.toNat, by omega⟩
      have hk : k ≤ 999 := by omega
      have a0 : decide ((k : Int) < 0) = false := by simp
      have a9 : decide ((999 : Int) < (k : Int)) = false := by simp; omega
      have d1 : ((k : Int)).tdiv 100 = ((k / 100 : Nat) : Int) := by rw [Int.tdiv_eq_ediv_of_nonneg (by omega)]; rfl
      have d2 : ((k : Int)).tdiv 10 = ((k / 10 : Nat) : Int) := by rw [Int.tdiv_eq_ediv_of_nonneg (by omega)]; rfl
      have d3 : (((k / 10 : Nat) : Int)).tmod 10 = ((k / 10 % 10 : Nat) : Int) := by rw [Int.tmod_eq_emod_of_nonneg (by omega)]; rfl
      have d4 : ((k : Int)).tmod 10 = ((k % 10 : Nat) : Int) := by rw [Int.tmod_eq_emod_of_nonneg (by omega)]; rfl
      go_enter Tryd.func3, Tryd.ntmps3
      go_wp2_with fail
      refine (begun4_calls _ HT.out).mono ?_
      rintro e w1 ⟨rfl, hb⟩
      have B1 := Lib.hid hb
      have T1 := Lib.hid (HT.out.belowAll hb)
      clear hb
      have n1 : k / 100 ≤ 9 := by omega
      have n2 : k / 10 % 10 ≤ 9 := by omega
      have n3 : k % 10 ≤ 9 := by omega
      obtain ⟨y1, hy1⟩ : ∃ y, y = k / 100 := ⟨_, rfl⟩
      obtain ⟨y2, hy2⟩ : ∃ y, y = k / 10 % 10 := ⟨_, rfl⟩
      obtain ⟨y3, hy3⟩ : ∃ y, y = k % 10 := ⟨_, rfl⟩
      obtain ⟨y4, hy4⟩ : ∃ y, y = k / 10 := ⟨_, rfl⟩
      have hseg : segName k = [108, 111, 103] ++ [UInt8.ofNat (48 + y1), UInt8.ofNat (48 + y2), UInt8.ofNat (48 + y3)] := by rw [hy1, hy2, hy3]; rfl
      rw [← hy1] at n1 d1
      rw [← hy2] at n2 d3
      rw [← hy3] at n3 d4
      rw [← hy4] at d2 d3
      have n4 : y4 ≤ 99 := by omega
      have m1 : (y1 : Int) ≤ 9 := by omega
      have m2 : (y2 : Int) ≤ 9 := by omega
      have m3 : (y3 : Int) ≤ 9 := by omega
      obtain ⟨x1, hx1⟩ : ∃ x, x = UInt8.ofNat (48 + y1) := ⟨_, rfl⟩
      obtain ⟨x2, hx2⟩ : ∃ x, x = UInt8.ofNat (48 + y2) := ⟨_, rfl⟩
      obtain ⟨x3, hx3⟩ : ∃ x, x = UInt8.ofNat (48 + y3) := ⟨_, rfl⟩
      rw [← hx1, ← hx2, ← hx3] at hseg
      have e1 : ((x1.toNat : Nat) : Int) = 48 + (y1 : Int) := by rw [hx1]; exact u8_digit m1
      have e2 : ((x2.toNat : Nat) : Int) = 48 + (y2 : Int) := by rw [hx2]; exact u8_digit m2
      have e3 : ((x3.toNat : Nat) : Int) = 48 + (y3 : Int) := by rw [hx3]; exact u8_digit m3
      have E1 := Lib.hid e1
      have E2 := Lib.hid e2
      have E3 := Lib.hid e3
      have HS := Lib.hid hseg
      clear hseg hx1 hx2 hx3 e1 e2 e3 hy1 hy2 hy3 hy4 n1 n2 n3
      have m4 : (y4 : Int) ≤ 99 := by omega
      have v1 : IntKind.wrap .i64 (y1 : Int) = y1 := wrap_small (by omega)
      have v4 : IntKind.wrap .i64 (y4 : Int) = y4 := wrap_small (by omega)
      have u1 := wrap_digit m1
      have u2 := wrap_digit m2
      have u3 := wrap_digit m3
      have b1 := wrap_byte m1
      have b2 := wrap_byte m2
      have b3 := wrap_byte m3
      have cv := fun (wx : World) => three_text wx E1.out E2.out E3.out
      have cvd := fun (wx : World) => three_later wx E1.out E2.out E3.out (Turn.drew [] _).belowAll
      go_wp2_with fail
      go_region_with (go_at_call 7; first
        | ((with_reducible refine (name_calls k hk _ (T1.out.turn (Turn.drew [] w1) (by simp))).mono ?_); rintro e w2 ⟨rfl, hb⟩; rw [HS.out]; have B2 := Lib.hid (B1.out.trans (((Turn.drew [] w1).trans (Turn.of_below hb []) (by simp)).belowAll.mono B1.out.size)); clear hb)
        | ((with_reducible refine (name_calls k hk _ (T1.out.turn ((Turn.alloc [] w1 _).trans (Turn.drew [] _) (by simp)) (by simp))).mono ?_); rintro e w2 ⟨rfl, hb⟩; rw [HS.out]; have B2 := Lib.hid (B1.out.trans ((((Turn.alloc [] w1 _).trans (Turn.drew [] _) (by simp)).trans (Turn.of_below hb []) (by simp)).belowAll.mono B1.out.size)); have cv2 := three_later w1 E1.out E2.out E3.out ((Turn.drew [] _).trans (Turn.of_below hb []) (by simp)).belowAll; clear hb))
      all_goals go_wp2
      all_goals go_ret
      all_goals rw [cat_three x1 x2 x3]
      all_goals refine ⟨rfl, ?_⟩
      all_goals first
        | exact B2.out
        | exact B2.out.trans ((Turn.alloc [] w2 _).belowAll.mono B2.out.size)

end Go.Proofs.YtibkahpbgeljeaaDoor
