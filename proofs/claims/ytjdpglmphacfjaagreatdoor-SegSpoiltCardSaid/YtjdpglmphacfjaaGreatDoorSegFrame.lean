/-
  The walks of seg's small functions, and of Frame.
-/
import Derived.Test.YtjdpglmphacfjaaGreatDoorSegMath
import Derived.Test.YtjdpglmphacfjaaGreatDoorSliceCut
import Derived.Test.YtjdpglmphacfjaaGreatDoorDk
namespace Go.Proofs.YtjdpglmphacfjaaGreatDoor
open Go.RowKit

set_option maxHeartbeats 400000 in
theorem mayFrame_calls (n : Nat) (w : World) : Calls Tryz.prog 43 #[.int .i64 (n : Int)] w fun e w' => e = .returned (.bool (decide (1 ≤ n) && decide (n ≤ 4000))) ∧ w = w' := by
  by_cases h1 : 1 ≤ n
  · by_cases h2 : n ≤ 4000
    · have a1 : decide ((1 : Int) ≤ (n : Int)) = true := by simp; omega
      have a2 : decide ((n : Int) ≤ 4000) = true := by simp; omega
      have a3 : (decide (1 ≤ n) && decide (n ≤ 4000)) = true := by simp; omega
      rw [a3]
      clear a3 h1 h2
      go_enter Tryz.func43, Tryz.ntmps43
      go_wp2
      go_ret
      exact ⟨rfl, rfl⟩
    · have a1 : decide ((1 : Int) ≤ (n : Int)) = true := by simp; omega
      have a2 : decide ((n : Int) ≤ 4000) = false := by simp; omega
      have a3 : (decide (1 ≤ n) && decide (n ≤ 4000)) = false := by simp; omega
      rw [a3]
      clear a3 h1 h2
      go_enter Tryz.func43, Tryz.ntmps43
      go_wp2
      go_ret
      exact ⟨rfl, rfl⟩
  · obtain rfl : n = 0 := by omega
    go_enter Tryz.func43, Tryz.ntmps43
    go_wp2
    go_ret
    exact ⟨rfl, rfl⟩

set_option maxHeartbeats 400000 in
theorem mayNumber_calls (n : Int) (w : World) : Calls Tryz.prog 26 #[.int .i64 n] w fun e w' => e = .returned (.bool (decide (0 ≤ n) && decide (n ≤ 999))) ∧ w = w' := by
  by_cases h1 : 0 ≤ n
  · by_cases h2 : n ≤ 999
    · have a1 : decide (0 ≤ n) = true := by simp; omega
      have a2 : decide (n ≤ 999) = true := by simp; omega
      have a3 : (decide (0 ≤ n) && decide (n ≤ 999)) = true := by simp; omega
      rw [a3]
      clear a3
      go_enter Tryz.func26, Tryz.ntmps26
      go_wp2
      go_ret
      exact ⟨rfl, rfl⟩
    · have a1 : decide (0 ≤ n) = true := by simp; omega
      have a2 : decide (n ≤ 999) = false := by simp; omega
      have a3 : (decide (0 ≤ n) && decide (n ≤ 999)) = false := by simp; omega
      rw [a3]
      clear a3
      go_enter Tryz.func26, Tryz.ntmps26
      go_wp2
      go_ret
      exact ⟨rfl, rfl⟩
  · have a1 : decide (0 ≤ n) = false := by simp; omega
    have a3 : (decide (0 ≤ n) && decide (n ≤ 999)) = false := by simp; omega
    rw [a3]
    clear a3
    go_enter Tryz.func26, Tryz.ntmps26
    go_wp2
    go_ret
    exact ⟨rfl, rfl⟩

def unless6 (e : Int) : Int := if e = 6 then 0 else e

set_option maxHeartbeats 400000 in
theorem unlessNone_calls (e0 : Int) (w : World) : Calls Tryz.prog 27 #[.int .i64 e0] w fun e w' => e = .returned (.int .i64 (unless6 e0)) ∧ w = w' := by
  unfold unless6
  by_cases h1 : e0 = 6
  · subst h1
    go_enter Tryz.func27, Tryz.ntmps27
    go_wp2
    go_ret
    exact ⟨rfl, rfl⟩
  · have a1 : (e0 == 6) = false := by simpa using h1
    have a2 : decide (e0 = 6) = false := by simpa using h1
    rw [if_neg h1]
    go_enter Tryz.func27, Tryz.ntmps27
    go_wp2
    go_ret
    exact ⟨rfl, rfl⟩

set_option maxHeartbeats 400000 in
theorem frameSum_calls (a1 a2 : Option Addr) (c1 c2 : Nat) (l1 l2 : List UInt8) (w : World) (h1 : Sl w a1 c1 l1) (h2 : Sl w a2 c2 l2) :
    Calls Tryz.prog 44 #[.slice a1 l1.length c1, .slice a2 l2.length c2] w fun e w' => e = .returned (.int .u32 (sumOn 0 (l1 ++ l2) : Nat)) ∧ w = w' := by
  have e1 := h1.le
  have e2 := h2.le
  unfold maxLen at e1 e2
  have C1 := Lib.hid (of_calls a1 c1 l1 w (by omega) h1.row)
  have C2 := Lib.hid (on_calls (sumOn 0 l1) a2 c2 l2 w (sumOn_lt _ _) (by omega) h2.row)
  rw [sumOn_append]
  clear h1 h2 e1 e2
  generalize l1.length = n1 at *
  generalize l2.length = n2 at *
  go_enter Tryz.func44, Tryz.ntmps44
  go_wp2_with fail
  refine C1.out.mono ?_
  rintro e w' ⟨rfl, rfl⟩
  go_wp2_with fail
  refine C2.out.mono ?_
  rintro e w' ⟨rfl, rfl⟩
  go_wp2
  go_ret
  exact ⟨rfl, rfl⟩

set_option maxHeartbeats 400000 in
theorem frame_none (ao : Option Addr) (c : Nat) (b : List UInt8) (w : World) (h : okF b = false) :
    Calls Tryz.prog 23 #[.slice ao b.length c] w fun e w' => e = .returned (.slice none 0 0) ∧ w = w' := by
  have C := mayFrame_calls b.length w
  unfold okF at h
  rw [h] at C
  clear h
  generalize b.length = n at *
  go_enter Tryz.func23, Tryz.ntmps23
  go_wp2_with fail
  refine C.mono ?_
  rintro e w' ⟨rfl, rfl⟩
  go_wp2
  go_ret
  exact ⟨rfl, rfl⟩

theorem only_turn {p : Addr} {w w' : World} (h : Only p w w') : Turn [p.block] w w' := ⟨h.os, h.tape, h.output, h.size, fun k hk hn => h.block k hk (by simpa using hn)⟩

set_option maxHeartbeats 2000000 in
set_option maxRecDepth 100000 in
theorem frame_some (ao : Option Addr) (c : Nat) (b : List UInt8) (w : World) (h : okF b = true) (hs : Sl w ao c b) :
    Calls Tryz.prog 23 #[.slice ao b.length c] w fun e w' => ∃ ao' c', e = .returned (.slice ao' (frB b).length c') ∧ Sl w' ao' c' (frB b) ∧ (∀ A, ao' = some A → w.heap.size ≤ A.block) ∧ Below w.heap.size w w' := by
  have C := mayFrame_calls b.length w
  have hb := okF_iff.1 h
  unfold okF at h
  rw [h] at C
  have CM := Lib.hid C
  have HS := Lib.hid hs
  have HB := Lib.hid hb
  clear h C hs hb
  obtain ⟨nb, hnb⟩ : ∃ nb, nb = b.length := ⟨_, rfl⟩
  rw [← hnb] at CM HB ⊢
  have HNB := Lib.hid hnb
  clear hnb
  go_enter Tryz.func23, Tryz.ntmps23
  go_wp2_with fail
  refine CM.out.mono ?_
  rintro e w' ⟨rfl, rfl⟩
  go_wp2_with fail
  refine (small_out w.heap.size 0 [] (nb : Int) _ (OutIs.new w _) (by simp)).mono ?_
  rintro e w1 ⟨rfl, ho1, hn1⟩
  rw [List.nil_append] at ho1
  have t1 : Turn [w.heap.size] w w1 := (Turn.alloc [w.heap.size] w _).trans (only_turn hn1.toOnly) (fun i hi => .inl hi)
  have hb1 := HS.out.turn t1 (fun A hA hne hm => by
    have h1 := HS.out
    rw [hA] at h1
    have := h1.lt hne
    have : A.block = w.heap.size := by simpa using hm
    omega)
  obtain ⟨oa, oc, q1, s1, f1⟩ := ho1
  have C1 := Lib.hid (frameSum_calls oa ao oc c (smallB (nb : Int)) b w1 s1 hb1)
  have HO1 : Hid (OutIs w1 ⟨w.heap.size, 0, none⟩ (smallB (nb : Int))) := Lib.hid ⟨oa, oc, q1, s1, f1⟩
  have T1 := Lib.hid t1
  rw [← HNB.out] at C1
  clear t1 hb1 s1 hn1
  go_wp2_with fail
  refine C1.out.mono ?_
  rintro e w' ⟨rfl, rfl⟩
  obtain ⟨S, hS⟩ : ∃ S, S = sumOn 0 (smallB (nb : Int) ++ b) := ⟨_, rfl⟩
  have hS2 : S < 4294967296 := by rw [hS]; exact sumOn_lt _ _
  rw [← hS]
  have HSS := Lib.hid hS
  clear hS C1 q1 f1
  go_wp2_with fail
  refine (small_out w.heap.size 0 (smallB (nb : Int)) (S : Int) _ HO1.out (by simp [smallB_length])).mono ?_
  rintro e w2 ⟨rfl, ho2, hn2⟩
  have T2 := Lib.hid (T1.out.trans (only_turn hn2.toOnly) (fun i hi => .inl hi))
  have HO2 := Lib.hid ho2
  clear ho2 hn2 HO1 T1
  go_wp2_with fail
  refine (small_out w.heap.size 0 (smallB (nb : Int) ++ smallB (S : Int)) ((S / 65536 : Nat) : Int) _ HO2.out (by simp [smallB_length])).mono ?_
  rintro e w3 ⟨rfl, ho3, hn3⟩
  have t3 := T2.out.trans (only_turn hn3.toOnly) (fun i hi => .inl hi)
  have hb3 := HS.out.turn t3 (fun A hA hne hm => by
    have h1 := HS.out
    rw [hA] at h1
    have := h1.lt hne
    have : A.block = w.heap.size := by simpa using hm
    omega)
  obtain ⟨oa3, oc3, q3, s3, f3⟩ := ho3
  obtain ⟨hd, hhd⟩ : ∃ hd, hd = smallB (nb : Int) ++ smallB (S : Int) ++ smallB ((S / 65536 : Nat) : Int) := ⟨_, rfl⟩
  rw [← hhd] at q3 s3
  have hhl : hd.length = 6 := by rw [hhd]; simp [smallB_length]
  have hfr : hd ++ b = frB b := by
    rw [hhd, frB, frHead, frSum, HSS.out, HNB.out]
    simp
  have B3 := Lib.hid (t3.below (B := w.heap.size) (by simp) (Nat.le_refl _))
  have HFR := Lib.hid hfr
  have CC := Lib.hid (fun T => concat_calls w3.heap.size 0 2 oa3 ao oc3 c hd b (w3.alloc (.cells #[.slice oa3 hd.length oc3, .slice ao nb c] T))
    (by rw [cell_of_row _ _ 0 _ _ _ (heap_alloc_new w3 _)]; rfl) (by rw [cell_of_row _ _ 1 _ _ _ (heap_alloc_new w3 _), HNB.out]; rfl)
    (s3.turn (Turn.alloc [] w3 _) (by simp)) (hb3.turn (Turn.alloc [] w3 _) (by simp)) (by have := HB.out; have := HNB.out; omega))
  clear hhd hhl hfr t3 hb3 s3 f3 hn3 HO2 T2
  generalize hd.length = hl at *
  go_wp2_with fail
  refine (CC.out _).mono ?_
  rintro e w5 ⟨v, rfl, hrow, hb5⟩
  obtain ⟨ao5, c5, rfl, hs5, ha5⟩ := row_read hrow
  rw [HFR.out] at hs5 ⊢
  have HS5 := Lib.hid hs5
  have HA5 := Lib.hid ha5
  have B5 := Lib.hid hb5
  have hz := B3.out.size
  have HZ := Lib.hid hz
  clear hrow hs5 ha5 hb5 hz CC q3
  go_wp2
  go_ret
  refine ⟨ao5, c5, rfl, HS5.out, fun A hA => ?_, ?_⟩
  · have h1 := HA5.out A hA
    have h2 := HZ.out
    simp at h1
    omega
  · exact B3.out.trans (((new_below w3 _).trans (B5.out.mono (by simp))).mono HZ.out)

end Go.Proofs.YtjdpglmphacfjaaGreatDoor
