/-
  The walk of Cut.
-/
import Derived.Test.YtjdpglmphacfjaaGreatDoorSegName
namespace Go.Proofs.YtjdpglmphacfjaaGreatDoor
open Go.RowKit

theorem clone_its (ao : Option Addr) (c : Nat) (l : List UInt8) (w : World) (h : Sl w ao c l) (hl : l.length ≤ 1048576) :
    Calls Tryz.prog 33 #[.slice ao l.length c] w fun e w' => ∃ ao' c', e = .returned (.slice ao' l.length c') ∧ Sl w' ao' c' l ∧ (∀ A, ao' = some A → w.heap.size ≤ A.block) ∧ Below w.heap.size w w' := by
  refine (clone_calls ao c l w h (by omega)).mono ?_
  rintro e w' ⟨v, rfl, hr, hb⟩
  obtain ⟨ao', c', rfl, hs, ha⟩ := row_read hr
  exact ⟨ao', c', rfl, hs, ha, hb⟩

theorem small_at (b : Nat) (l : List UInt8) (w : World) (h : InIs w b l false) (h2 : 2 ≤ l.length) :
    Calls Tryz.prog 42 #[.pointer (some ⟨b, 0, none⟩)] w fun e w' => e = .returned (.int .i64 (leN (l.take 2) : Nat)) ∧ InIs w' b (l.drop 2) false ∧ w.grownBy w' (some b) := by
  have C := small_in b l false w h
  have hc : canTake l false 2 = true := by simp [canTake, h2]
  rw [taken, after, if_pos hc, if_pos hc, hc] at C
  exact C

/-- The first two bytes. -/
theorem cut_len_lt (b : List UInt8) : cutLen b < 65536 := by
  have := leN_lt' (l := b.take 2) (n := 2) (by simp; omega)
  unfold cutLen
  omega

def errOf : Cr → Int
  | .more => 2
  | .bad => 3
  | .ok _ => 0

set_option maxHeartbeats 1000000 in
theorem cut_few (ao : Option Addr) (c : Nat) (b : List UInt8) (w : World) (h : b.length < 2) :
    Calls Tryz.prog 22 #[.slice ao b.length c] w fun e w' => e = .returned (.tuple #[.slice none 0 0, .int .i64 0, .int .i64 2]) ∧ Below w.heap.size w w' := by
  generalize b.length = n at *
  go_enter Tryz.func22, Tryz.ntmps22
  go_wp2
  go_ret3
  exact ⟨rfl, Below.refl _ _⟩

theorem InIs.turn {w w' : World} {b : Nat} {l : List UInt8} {bad : Bool} {k : List Nat} (h : InIs w b l bad) (t : Turn k w w') (hb : b ∉ k) : InIs w' b l bad := h.same (t.block b h.lt hb)

set_option maxHeartbeats 2000000 in
set_option maxRecDepth 100000 in
/-- A length that may not be. -/
theorem cut_wrong (ao : Option Addr) (c : Nat) (b : List UInt8) (w : World) (hs : Sl w ao c b) (h2 : 2 ≤ b.length) (hl : cutLen b < 1 ∨ 4000 < cutLen b) :
    Calls Tryz.prog 22 #[.slice ao b.length c] w fun e w' => e = .returned (.tuple #[.slice none 0 0, .int .i64 0, .int .i64 3]) ∧ Below w.heap.size w w' := by
  have hle := hs.le
  unfold maxLen at hle
  obtain ⟨m, hm⟩ : ∃ m, m = min b.length 6 := ⟨_, rfl⟩
  have hm1 : min (b.length : Int) 6 = (m : Int) := by omega
  have hm6 : (b.take 6).length = m := by rw [List.length_take, hm, Nat.min_comm]
  have CR := read_calls ao c (b.take 6) w (hs.front 6)
  rw [hm6] at CR
  have HSF := slice_front ao b.length c m (by omega)
  have CM := mayFrame_calls (cutLen b)
  have hf : (decide (1 ≤ cutLen b) && decide (cutLen b ≤ 4000)) = false := by simp; omega
  rw [hf] at CM
  have e2 : (b.take 6).take 2 = b.take 2 := by rw [List.take_take]; rfl
  have H6 : Hid (2 ≤ (b.take 6).length) := Lib.hid (by omega)
  have E2 := Lib.hid e2
  have HCR := Lib.hid CR
  have HCM := Lib.hid CM
  have h2' : ¬ ((b.length : Int) < 2) := by omega
  have h2'' : decide ((b.length : Int) < 2) = false := by simp; omega
  clear hm hm6 CR CM hf e2 hs hle hl h2 h2'
  generalize b.length = nb at *
  go_enter Tryz.func22, Tryz.ntmps22
  go_wp2_with fail
  refine HCR.out.mono ?_
  rintro e w1 ⟨rfl, hi1, hb1⟩
  have C2 := Lib.hid (small_at _ _ _ hi1 H6.out)
  have B1 := Lib.hid hb1
  clear hi1 hb1 HSF hm1
  go_wp2_with fail
  refine C2.out.mono ?_
  rintro e w2 ⟨rfl, -, hg2⟩
  rw [E2.out]
  have B2 := Lib.hid ((B1.out.grown hg2 B1.out.size (by intro k hk; cases hk; exact Nat.le_refl _)))
  clear hg2
  rw [show leN (b.take 2) = cutLen b from rfl]
  go_wp2_with fail
  refine (HCM.out _).mono ?_
  rintro e w' ⟨rfl, rfl⟩
  go_wp2
  go_ret3
  exact ⟨rfl, B2.out⟩

set_option maxHeartbeats 2000000 in
set_option maxRecDepth 100000 in
/-- Fewer bytes than it says. -/
theorem cut_short (ao : Option Addr) (c : Nat) (b : List UInt8) (w : World) (hs : Sl w ao c b) (h2 : 2 ≤ b.length) (hl : 1 ≤ cutLen b ∧ cutLen b ≤ 4000) (hsh : b.length < 6 + cutLen b) :
    Calls Tryz.prog 22 #[.slice ao b.length c] w fun e w' => e = .returned (.tuple #[.slice none 0 0, .int .i64 0, .int .i64 2]) ∧ Below w.heap.size w w' := by
  have hle := hs.le
  unfold maxLen at hle
  obtain ⟨m, hm⟩ : ∃ m, m = min b.length 6 := ⟨_, rfl⟩
  have hm1 : min (b.length : Int) 6 = (m : Int) := by omega
  have hm6 : (b.take 6).length = m := by rw [List.length_take, hm, Nat.min_comm]
  have CR := read_calls ao c (b.take 6) w (hs.front 6)
  rw [hm6] at CR
  have HSF := slice_front ao b.length c m (by omega)
  have CM := mayFrame_calls (cutLen b)
  have hf : (decide (1 ≤ cutLen b) && decide (cutLen b ≤ 4000)) = true := by simp; omega
  rw [hf] at CM
  have e2 : (b.take 6).take 2 = b.take 2 := by rw [List.take_take]; rfl
  have H6 : Hid (2 ≤ (b.take 6).length) := Lib.hid (by omega)
  have E2 := Lib.hid e2
  have HCR := Lib.hid CR
  have HCM := Lib.hid CM
  have h2'' : decide ((b.length : Int) < 2) = false := by simp; omega
  have HL := Lib.hid hl
  have HSH := Lib.hid hsh
  clear hm hm6 CR CM hf e2 hs hle h2 hl hsh
  generalize b.length = nb at *
  go_enter Tryz.func22, Tryz.ntmps22
  go_wp2_with fail
  refine HCR.out.mono ?_
  rintro e w1 ⟨rfl, hi1, hb1⟩
  have C2 := Lib.hid (small_at _ _ _ hi1 H6.out)
  have B1 := Lib.hid hb1
  clear hi1 hb1 HSF hm1
  go_wp2_with fail
  refine C2.out.mono ?_
  rintro e w2 ⟨rfl, -, hg2⟩
  rw [E2.out]
  have B2 := Lib.hid ((B1.out.grown hg2 B1.out.size (by intro k hk; cases hk; exact Nat.le_refl _)))
  clear hg2
  rw [show leN (b.take 2) = cutLen b from rfl]
  generalize cutLen b = cl at *
  go_wp2_with fail
  refine (HCM.out _).mono ?_
  rintro e w' ⟨rfl, rfl⟩
  have hl1 : (cl : Int) ≤ 4000 := by have := HL.out; omega
  have hsh2 : (nb : Int) < 6 + (cl : Int) := by have := HSH.out; omega
  go_wp2
  go_ret3
  exact ⟨rfl, B2.out⟩

theorem two_halves (lo hi : Nat) (h1 : lo < 65536) (h2 : hi < 65536) : bits .or .u32 (lo : Int) ((hi : Int) * 65536) = ((lo + 65536 * hi : Nat) : Int) := by
  have e : ((hi : Int) * 65536) = ((2 ^ 16 * hi : Nat) : Int) := by omega
  rw [e, u32_or_nat _ _ (by omega) (by omega), Nat.or_comm, nat_join 16 _ _ (by simp) (by omega)]
  omega

set_option maxHeartbeats 4000000 in
set_option maxRecDepth 100000 in
/-- A whole frame, by its length. -/
theorem cut_whole (ao : Option Addr) (c : Nat) (b : List UInt8) (w : World) (hs : Sl w ao c b) (hl : 1 ≤ cutLen b ∧ cutLen b ≤ 4000) (hsh : 6 + cutLen b ≤ b.length) :
    Calls Tryz.prog 22 #[.slice ao b.length c] w fun e w' => Below w.heap.size w w' ∧
      (cutSum b = sumOn 0 (b.take 2 ++ (b.drop 6).take (cutLen b)) → ∃ ao' c', e = .returned (.tuple #[.slice ao' ((b.drop 6).take (cutLen b)).length c', .int .i64 ((6 + cutLen b : Nat) : Int), .int .i64 0]) ∧ Sl w' ao' c' ((b.drop 6).take (cutLen b)) ∧ ∀ A, ao' = some A → w.heap.size ≤ A.block) ∧
      (cutSum b ≠ sumOn 0 (b.take 2 ++ (b.drop 6).take (cutLen b)) → e = .returned (.tuple #[.slice none 0 0, .int .i64 0, .int .i64 3])) := by
  have hle := hs.le
  unfold maxLen at hle
  have hm1 : min (b.length : Int) 6 = 6 := by omega
  have hm6 : (b.take 6).length = 6 := by rw [List.length_take]; omega
  have CR := read_calls ao c (b.take 6) w (hs.front 6)
  rw [hm6] at CR
  have HSF : ∀ wx, (Instr.slice 31 (.slice ao b.length c) none (some (.int .i64 6)) none).run Tryz.prog wx = .ok (.slice ao 6 c) wx := slice_front ao b.length c 6 (by omega)
  have HSF2 : Hid (∀ wx, (Instr.slice 31 (.slice ao b.length c) none (some (.int .i64 2)) none).run Tryz.prog wx = .ok (.slice ao 2 c) wx) := Lib.hid (slice_front ao b.length c 2 (by omega))
  have HSM : Hid (∀ wx, (Instr.slice 31 (.slice ao b.length c) (some (.int .i64 6)) (some (.int .i64 (6 + (cutLen b : Int)))) none).run Tryz.prog wx = .ok (.slice (cutAt ao c 6) (cutLen b) (c - 6)) wx) := Lib.hid (fun wx => by
    have h1 := slice_mid ao b.length c 6 (6 + cutLen b) (by omega) (by omega) wx
    rw [Nat.add_sub_cancel_left] at h1
    exact h1)
  have CM := mayFrame_calls (cutLen b)
  have hf : (decide (1 ≤ cutLen b) && decide (cutLen b ≤ 4000)) = true := by simp; omega
  rw [hf] at CM
  have e2 : (b.take 6).take 2 = b.take 2 := by rw [List.take_take]; rfl
  have e4 : ((b.take 6).drop 2).take 2 = (b.drop 2).take 2 := by rw [List.drop_take, List.take_take]; rfl
  have e6 : (((b.take 6).drop 2).drop 2).take 2 = (b.drop 4).take 2 := by rw [List.drop_drop, List.drop_take, List.take_take]; rfl
  have H6 : Hid (2 ≤ (b.take 6).length) := Lib.hid (by omega)
  have H62 : Hid (2 ≤ ((b.take 6).drop 2).length) := Lib.hid (by rw [List.length_drop]; omega)
  have H64 : Hid (2 ≤ (((b.take 6).drop 2).drop 2).length) := Lib.hid (by rw [List.length_drop, List.length_drop]; omega)
  have E2 := Lib.hid e2
  have E4 := Lib.hid e4
  have E6 := Lib.hid e6
  have HCR := Lib.hid CR
  have HCM := Lib.hid CM
  have h2'' : decide ((b.length : Int) < 2) = false := by simp; omega
  have htl : ((b.drop 6).take (cutLen b)).length = cutLen b := by rw [List.length_take, List.length_drop]; omega
  have HTX := Lib.hid (fun (w' : World) (hb : Below w.heap.size w w') => ((hs.drop (k := 6) (by omega)).front (cutLen b)).belowAll hb)
  have HT2 := Lib.hid (fun (w' : World) (hb : Below w.heap.size w w') => (hs.front 2).belowAll hb)
  have ht2 : (b.take 2).length = 2 := by rw [List.length_take]; omega
  have HTL := Lib.hid htl
  have HT2L := Lib.hid ht2
  have HL := Lib.hid hl
  have HSH := Lib.hid hsh
  have hlo := leN_lt' (l := (b.drop 2).take 2) (n := 2) (by simp; omega)
  have hhi := leN_lt' (l := (b.drop 4).take 2) (n := 2) (by simp; omega)
  have HSUM : Hid (cutSum b = leN ((b.drop 2).take 2) + 65536 * leN ((b.drop 4).take 2)) := Lib.hid rfl
  clear hm6 CR CM hf e2 e4 e6 hs hle hl hsh htl ht2
  generalize b.length = nb at *
  have HCL := Lib.hid (show leN (b.take 2) = cutLen b from rfl)
  generalize cutLen b = cl at *
  generalize (b.drop 6).take cl = tx at *
  go_enter Tryz.func22, Tryz.ntmps22
  go_wp2_with fail
  refine HCR.out.mono ?_
  rintro e w1 ⟨rfl, hi1, hb1⟩
  have C2 := Lib.hid (small_at _ _ _ hi1 H6.out)
  have B1 := Lib.hid hb1
  clear hi1 hb1 HSF hm1
  go_wp2_with fail
  refine C2.out.mono ?_
  rintro e w2 ⟨rfl, hi2, hg2⟩
  rw [E2.out]
  have HI2 := Lib.hid hi2
  have B2 := Lib.hid ((B1.out.grown hg2 B1.out.size (by intro k hk; cases hk; exact Nat.le_refl _)))
  clear hg2 hi2 C2 B1
  rw [HCL.out]
  go_wp2_with fail
  refine (HCM.out _).mono ?_
  rintro e w' ⟨rfl, rfl⟩
  have hl1 : (cl : Int) ≤ 4000 := by have := HL.out; omega
  have hsh2 : decide ((nb : Int) < 6 + (cl : Int)) = false := by have := HSH.out; simp; omega
  have hsm := HSM.out
  go_wp2_with fail
  refine (small_at _ _ _ HI2.out H62.out).mono ?_
  rintro e w3 ⟨rfl, hi3, hg3⟩
  rw [E4.out]
  have HI3 := Lib.hid hi3
  have B3 := Lib.hid ((B2.out.grown hg3 B2.out.size (by intro k hk; cases hk; exact Nat.le_refl _)))
  clear hg3 hi3 HI2 B2 hsm
  generalize leN ((b.drop 2).take 2) = lo at *
  go_wp2_with fail
  refine (small_at _ _ _ HI3.out H64.out).mono ?_
  rintro e w4 ⟨rfl, -, hg4⟩
  rw [E6.out]
  have B4 := Lib.hid ((B3.out.grown hg4 B3.out.size (by intro k hk; cases hk; exact Nat.le_refl _)))
  clear hg4 HI3 B3
  generalize leN ((b.drop 4).take 2) = hi at *
  have CF := frameSum_calls ao (cutAt ao c 6) c (c - 6) (b.take 2) tx w4 (HT2.out _ B4.out) (HTX.out _ B4.out)
  rw [HT2L.out, HTL.out] at CF
  obtain ⟨S2, hS2⟩ : ∃ S2, S2 = sumOn 0 (b.take 2 ++ tx) := ⟨_, rfl⟩
  rw [← hS2] at CF
  have HS2 := Lib.hid hS2
  have HCF := Lib.hid CF
  have hsf2 := HSF2.out
  have hor := two_halves lo hi hlo hhi
  have CLN := clone_its (cutAt ao c 6) (c - 6) tx w4 (HTX.out _ B4.out) (by have := HTL.out; have := HL.out; omega)
  rw [HTL.out] at CLN
  have HCLN := Lib.hid CLN
  have hz4 := B4.out.size
  have HZ4 := Lib.hid hz4
  clear CF hS2 CLN hz4
  by_cases heq : lo + 65536 * hi = S2
  · have q1 : ((lo : Int) + 65536 * (hi : Int)) = (S2 : Int) := by omega
    have HEQ := Lib.hid heq
    have HQ := Lib.hid q1
    clear heq q1
    go_wp2_with fail
    refine HCF.out.mono ?_
    rintro e w' ⟨rfl, rfl⟩
    rw [← HEQ.out]
    go_wp2_with fail
    refine HCLN.out.mono ?_
    rintro e w6 ⟨ao6, c6, rfl, hs6, ha6, hb6⟩
    have HS6 := Lib.hid hs6
    have HA6 := Lib.hid ha6
    have B6 := Lib.hid (B4.out.trans (hb6.mono B4.out.size))
    clear hs6 ha6 hb6
    go_wp2
    go_ret3
    refine ⟨B6.out, fun _ => ⟨ao6, c6, ?_, HS6.out, fun A hA => Nat.le_trans HZ4.out (HA6.out A hA)⟩, fun h => absurd (by rw [HSUM.out, HEQ.out, HS2.out]) h⟩
    rw [HTL.out]
    rfl
  · have q1 : decide (((lo : Int) + 65536 * (hi : Int)) = (S2 : Int)) = false := by simp; omega
    have q2 : (((lo : Int) + 65536 * (hi : Int)) == (S2 : Int)) = false := by simp; omega
    have HEQ := Lib.hid heq
    clear heq
    go_wp2_with fail
    refine HCF.out.mono ?_
    rintro e w' ⟨rfl, rfl⟩
    go_wp2_with fail
    go_ret3
    exact ⟨B4.out, fun h => absurd (by rw [← HSUM.out, h, HS2.out]) HEQ.out, fun _ => rfl⟩

end Go.Proofs.YtjdpglmphacfjaaGreatDoor
