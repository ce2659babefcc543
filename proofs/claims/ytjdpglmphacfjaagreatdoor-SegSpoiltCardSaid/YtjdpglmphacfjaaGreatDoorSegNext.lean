/-
  The walks of full, leave, Next, All.
-/
import Derived.Test.YtjdpglmphacfjaaGreatDoorSegLog
namespace Go.Proofs.YtjdpglmphacfjaaGreatDoor
open Go.RowKit

set_option maxHeartbeats 2000000 in
set_option maxRecDepth 100000 in
theorem full_calls {L : List Nat} {wq w : World} {lb d room num : Nat} {T : List (List UInt8)} {M : List Fm} (h : Lg L wq w lb d room num T M) :
    Calls Tryz.prog 31 #[.pointer (some ⟨lb, 0, none⟩)] w fun e w' => e = .returned (.bool (decide (2000 ≤ (bytesOf M (segName num)).length))) ∧ Lg L wq w' lb d room num T M := by
  obtain ⟨c0, c1, -, -⟩ := h.head
  have hn : num ≤ 999 := h.2.2.2.1
  have H := Lib.hid h
  have hdb : decide (2000 ≤ (bytesOf M (segName num)).length) = decide ((2000 : Int) ≤ (((bytesOf M (segName num)).length : Nat) : Int)) := by
    rw [decide_eq_decide]
    omega
  rw [hdb]
  obtain ⟨nb, hnb⟩ : ∃ nb, nb = (bytesOf M (segName num)).length := ⟨_, rfl⟩
  rw [← hnb]
  have HNB := Lib.hid hnb
  clear h hdb hnb
  go_enter Tryz.func31, Tryz.ntmps31
  go_wp2_with fail
  go_region_held3 (fun w' => w'.cell? ⟨lb, 0, none⟩ = some (.pointer (some ⟨d, 0, none⟩)) ∧ w'.cell? ⟨lb, 1, none⟩ = some (.int .i64 (num : Int)))
    (go_keep)
    (first
      | (go_at_call 25; ((with_reducible refine (lg_name (H.out.turn (Turn.drew [] w)) hn).mono ?_); rintro e w1 ⟨rfl, h1⟩); obtain ⟨q0, q1, -, -⟩ := h1.head; have H1 := Lib.hid h1; clear h1)
      | (go_at_call 19; ((with_reducible refine (lg_read H1.out (segName_len num)).mono ?_); rintro e w2 ⟨ao, c, rfl, -, -, h2, -⟩); obtain ⟨q2, q3, -, -⟩ := h2.head; have H2 := Lib.hid h2; clear h2))
  rw [← HNB.out]
  go_wp2
  go_ret
  exact ⟨rfl, H2.out⟩

theorem Lg.synced {L : List Nat} {wq w : World} {lb d room num : Nat} {T : List (List UInt8)} {M : List Fm} (h : Lg L wq w lb d room num T M) : num ≤ 999 := h.2.2.2.1

set_option maxHeartbeats 2000000 in
set_option maxRecDepth 100000 in
theorem leave_calls {L : List Nat} {wq w : World} {lb d room num : Nat} {T : List (List UInt8)} {M : List Fm} (h : Lg L wq w lb d room num T M) (hn : num < 999) :
    Calls Tryz.prog 32 #[.pointer (some ⟨lb, 0, none⟩)] w fun e w' => e = .returned (.tuple #[.int .i64 ((num + 1 : Nat) : Int), .int .i64 0]) ∧ Lg L wq w' lb d room num T (synM M (segName num)) := by
  obtain ⟨c0, c1, -, -⟩ := h.head
  have C := Lib.hid (force_calls h)
  have a1 : decide ((999 : Int) ≤ (num : Int)) = false := by simp; omega
  clear h
  go_enter Tryz.func32, Tryz.ntmps32
  go_wp2_with fail
  refine C.out.mono ?_
  rintro e w1 ⟨rfl, h1⟩
  obtain ⟨q0, q1, -, -⟩ := h1.head
  have H1 := Lib.hid h1
  clear h1
  go_wp2
  go_ret2
  exact ⟨rfl, H1.out⟩

set_option maxHeartbeats 1000000 in
theorem leave_end {L : List Nat} {wq w : World} {lb d room num : Nat} {T : List (List UInt8)} {M : List Fm} (h : Lg L wq w lb d room num T M) (hn : num = 999) :
    Calls Tryz.prog 32 #[.pointer (some ⟨lb, 0, none⟩)] w fun e w' => e = .returned (.tuple #[.int .i64 0, .int .i64 4]) ∧ w = w' := by
  obtain ⟨c0, c1, -, -⟩ := h.head
  subst hn
  clear h
  go_enter Tryz.func32, Tryz.ntmps32
  go_wp2
  go_ret2
  exact ⟨rfl, rfl⟩

/-- The last number is another one now. -/
theorem Lg.renum {L : List Nat} {wq w : World} {lb d room num : Nat} {T : List (List UInt8)} {M : List Fm} (h : Lg L wq w lb d room num T M) {n : Nat} (hn : n ≤ 999) : Lg L wq (w.setCell ⟨lb, 1, none⟩ (.int .i64 (n : Int))) lb d room n T M := by
  obtain ⟨h1, h2, h3, h4, h5, v, l, hc, hd, hl, ht⟩ := h
  have t : Turn [lb] w (w.setCell ⟨lb, 1, none⟩ (.int .i64 (n : Int))) := Turn.setCell w (by simp) _
  refine ⟨h1.trans t (fun i hi => by
    have : i = lb := by simpa using hi
    rw [this]
    exact h3), h2, h3, hn, h5, v, l, block_set hc _, hd.turn t (fun i hi hm => (hl i hi).2 (by simpa using hm)), hl, ht.turn t (fun k hk hm => hk.2.1 (by simpa using hm))⟩

set_option maxHeartbeats 1000000 in
theorem next_calls {L : List Nat} {wq w : World} {lb d room num : Nat} {T : List (List UInt8)} {M : List Fm} (h : Lg L wq w lb d room num T M) (hn : num < 999) :
    Calls Tryz.prog 12 #[.pointer (some ⟨lb, 0, none⟩)] w fun e w' => e = .returned (.int .i64 0) ∧ Lg L wq w' lb d room (num + 1) T (synM M (segName num)) := by
  have C := Lib.hid (leave_calls h hn)
  have HN := Lib.hid hn
  clear h hn
  go_enter Tryz.func12, Tryz.ntmps12
  go_wp2_with fail
  refine C.out.mono ?_
  rintro e w1 ⟨rfl, h1⟩
  obtain ⟨q0, q1, z1, -⟩ := h1.head
  have H1 := Lib.hid h1
  clear h1
  generalize hk : num + 1 = k at *
  go_wp2
  go_ret
  subst hk
  exact ⟨rfl, H1.out.renum (by have := HN.out; omega)⟩

set_option maxHeartbeats 1000000 in
theorem next_end {L : List Nat} {wq w : World} {lb d room num : Nat} {T : List (List UInt8)} {M : List Fm} (h : Lg L wq w lb d room num T M) (hn : num = 999) :
    Calls Tryz.prog 12 #[.pointer (some ⟨lb, 0, none⟩)] w fun e w' => e = .returned (.int .i64 4) ∧ w = w' := by
  have C := Lib.hid (leave_end h hn)
  clear h hn
  go_enter Tryz.func12, Tryz.ntmps12
  go_wp2_with fail
  refine C.out.mono ?_
  rintro e w1 ⟨rfl, rfl⟩
  go_wp2
  go_ret
  exact ⟨rfl, rfl⟩

end Go.Proofs.YtjdpglmphacfjaaGreatDoor
