/-
  The walk of the log laws' own 'begun': it answers true, and turns nothing that was there.
-/
import Derived.Test.YtjdpglmphacfjaaGreatDoorSegOne
namespace Go.Proofs.YtjdpglmphacfjaaGreatDoor
open Go.RowKit

theorem ok_one' : okF tOne = true := by decide
theorem ok_two' : okF tTwo = true := by decide

/-- A log's disk behind a fall, opened: all in blocks that are new. -/
theorem reopen {wq w : World} {lb d num : Nat} {T : List (List UInt8)} (h : Lg [] wq w lb d rBig num T mC) (n : Int) (hn : -9223372036854775808 ≤ n ∧ n ≤ 9223372036854775807) :
    Calls Tryz.prog 21 #[.pointer (some ⟨d, 0, none⟩), .int .i64 n] w fun e w' => ∃ bb, e = .returned (.pointer (some ⟨bb, 0, none⟩)) ∧ Dk w w' bb rBig (mFall n mC) := by
  obtain ⟨-, l, hd, -⟩ := h.dk
  refine (fall_calls n hn w hd (by rw [mC_few]; decide)).mono ?_
  rintro e w' ⟨bb, l', rfl, hd', hb, hl⟩
  exact ⟨bb, rfl, hb, l', hd', hl⟩

set_option maxHeartbeats 4000000 in
set_option maxRecDepth 100000 in
theorem begun4_calls (w : World) (ht : Tab w) : Calls Tryz.prog 7 #[] w fun e w' => e = .returned (.bool true) ∧ Below w.heap.size w w' := by
  have kc := fun (wx : World) (C : Array Value) (n c : Nat) => Lib.run_convert_bytes_const (P := Tryz.prog) wx 31 5 C n c Tryz.underlying31 Tryz.underlying5
  have HTB := Lib.hid ht
  clear ht
  go_enter Tryz.func7, Tryz.ntmps7
  go_wp2_with fail
  refine (new_calls 1048576 _).mono ?_
  rintro e w1 ⟨rfl, hd, hb⟩
  rw [room_big] at hd
  have D1 : Hid (Dk w w1 w.heap.size rBig []) := Lib.hid ⟨hb, _, hd, by simp⟩
  obtain ⟨d, hdd⟩ : ∃ d, d = w.heap.size := ⟨_, rfl⟩
  rw [← hdd] at D1 ⊢
  clear hd hb hdd
  go_wp2_with fail
  refine (open_calls D1.out HTB.out 0 (by decide) 0 (fun n => by simp [mDel, bytesOf]) (by simp)).mono ?_
  rintro e w2 ⟨hok, -⟩
  obtain ⟨lb, rfl, hl2⟩ := hok (by rw [open_first.1])
  rw [open_first.1, open_first.2] at hl2
  have L2 := Lib.hid (show Lg [] w w2 lb d rBig 0 [] [] from hl2)
  clear hl2 hok D1
  go_wp2_with fail
  -- "one" is added
  have L3 := Lib.hid (L2.out.rebase (Turn.alloc [] w2 (.cells #[.int .u8 111, .int .u8 110, .int .u8 101] 5 (3, 4))))
  have t3 := (L2.out.turn (Turn.alloc [] w2 (.cells #[.int .u8 111, .int .u8 110, .int .u8 101] 5 (3, 4)))).1
  have s3 : Sl (w2.alloc (.cells #[.int .u8 111, .int .u8 110, .int .u8 101] 5 (3, 4))) (some ⟨w2.heap.size, 0, none⟩) 3 tOne := Sl.marked w2 #[.int .u8 111, .int .u8 110, .int .u8 101] 5 (3, 4) tOne rfl (by decide)
  have m3 : ∀ A, some (⟨w2.heap.size, 0, none⟩ : Addr) = some A → tOne ≠ [] → A.block ∉ mine [] w w2 := by
    intro A hA _ hm
    obtain rfl := Option.some.inj hA
    exact Nat.lt_irrefl _ (mem_mine.1 hm).1
  have C3 := add_calls L3.out (some ⟨w2.heap.size, 0, none⟩) 3 tOne ok_one' s3 m3 (by rw [add_first.1]; decide) (by decide)
  rw [add_first.1, add_first.2] at C3
  refine Calls.mono C3 ?_
  rintro e w4 ⟨rfl, h4, -⟩
  have h4' := (h4 rfl).back t3 ⟨HTB.out, by simp⟩
  have L4 : Hid (Lg [] w w4 lb d rBig 0 [tOne] mA) := Lib.hid h4'
  clear h4 h4' t3 L3 L2 C3 s3 m3
  go_wp2_with fail
  refine (force_calls L4.out).mono ?_
  rintro e w5 ⟨rfl, h5⟩
  have L5 := Lib.hid (show Lg [] w w5 lb d rBig 0 [tOne] mB from h5)
  clear h5 L4
  go_wp2_with fail
  -- "two" is added
  have L6 := Lib.hid (L5.out.rebase (Turn.alloc [] w5 (.cells #[.int .u8 116, .int .u8 119, .int .u8 111] 5 (3, 4))))
  have t6 := (L5.out.turn (Turn.alloc [] w5 (.cells #[.int .u8 116, .int .u8 119, .int .u8 111] 5 (3, 4)))).1
  have s6 : Sl (w5.alloc (.cells #[.int .u8 116, .int .u8 119, .int .u8 111] 5 (3, 4))) (some ⟨w5.heap.size, 0, none⟩) 3 tTwo := Sl.marked w5 #[.int .u8 116, .int .u8 119, .int .u8 111] 5 (3, 4) tTwo rfl (by decide)
  have m6 : ∀ A, some (⟨w5.heap.size, 0, none⟩ : Addr) = some A → tTwo ≠ [] → A.block ∉ mine [] w w5 := by
    intro A hA _ hm
    obtain rfl := Option.some.inj hA
    exact Nat.lt_irrefl _ (mem_mine.1 hm).1
  have C6 := add_calls L6.out (some ⟨w5.heap.size, 0, none⟩) 3 tTwo ok_two' s6 m6 (by rw [add_second.1]; decide) (by decide)
  rw [add_second.1, add_second.2] at C6
  refine Calls.mono C6 ?_
  rintro e w7 ⟨rfl, h7, -⟩
  have h7' := (h7 rfl).back t6 ⟨HTB.out, by simp⟩
  have L7 : Hid (Lg [] w w7 lb d rBig 0 [tOne, tTwo] mC) := Lib.hid h7'
  clear h7 h7' t6 L6 L5 C6 s6 m6
  go_wp2_with fail
  -- behind a fall of 0
  refine (reopen L7.out 0 (by decide)).mono ?_
  rintro e w8 ⟨b8, rfl, hd8⟩
  have D8 := Lib.hid hd8
  clear hd8
  go_wp2_with fail
  refine (open_calls D8.out L7.out.tab 0 (by decide) 9 (fun n => Nat.le_trans (bytesOf_le _) (by rw [open_nought.2.2.2]; decide)) (by rw [open_nought.2.2.1]; decide)).mono ?_
  rintro e w9 ⟨hok, -⟩
  obtain ⟨lm, rfl, h9⟩ := hok open_nought.1
  rw [open_nought.2.1, open_nought.2.2.1] at h9
  generalize (openF rBig (mFall 0 mC) 0).2.2 = M9 at h9
  have N9 := Lib.hid h9
  have L9 := Lib.hid (L7.out.turn h9.1)
  clear h9 hok D8 L7
  go_wp2_with fail
  -- behind a fall of 8
  refine (reopen L9.out 8 (by decide)).mono ?_
  rintro e w10 ⟨b10, rfl, hd10⟩
  have D10 := Lib.hid hd10
  clear hd10
  go_wp2_with fail
  refine (open_calls D10.out L9.out.tab 0 (by decide) 17 (fun n => Nat.le_trans (bytesOf_le _) (by rw [open_eight.2.2.2]; decide)) (by rw [open_eight.2.2.1]; decide)).mono ?_
  rintro e w11 ⟨hok, -⟩
  obtain ⟨ln, rfl, h11⟩ := hok open_eight.1
  rw [open_eight.2.1, open_eight.2.2.1] at h11
  generalize (openF rBig (mFall 8 mC) 0).2.2 = M11 at h11
  have O11 := Lib.hid h11
  have L11 := Lib.hid (L9.out.turn h11.1)
  have N11 := Lib.hid (N9.out.turn h11.1)
  clear h11 hok D10 L9 N9
  go_wp2_with fail
  -- a frame
  refine (frame_some _ 2 tAb _ (by decide) (Sl.marked w11 #[.int .u8 97, .int .u8 98] 5 (2, 3) tAb rfl (by decide))).mono ?_
  rintro e w12 ⟨ao12, c12, rfl, hs12, -, hb12⟩
  have bb := Below.trans (Turn.alloc [] w11 (.cells #[.int .u8 97, .int .u8 98] 5 (2, 3))).belowAll (hb12.mono (by simp))
  have S12 := Lib.hid hs12
  have O12 := Lib.hid (O11.out.below bb)
  have L12 := Lib.hid (L11.out.below bb)
  have N12 := Lib.hid (N11.out.below bb)
  clear bb hs12 hb12 O11 L11 N11
  go_wp2_with fail
  refine (cut_ok _ S12.out (by rw [show frB tAb = frB tAb ++ [] by simp]; exact cut_fr (b := tAb) (by decide) [])).mono ?_
  rintro e w13 ⟨ao13, c13, rfl, hs13, -, hb13⟩
  have S13 := Lib.hid hs13
  have O13 := Lib.hid (O12.out.below hb13)
  have L13 := Lib.hid (L12.out.below hb13)
  have N13 := Lib.hid (N12.out.below hb13)
  clear hs13 hb13 O12 L12 N12 S12
  go_wp2_with fail
  refine (begunThree_calls _).mono ?_
  rintro e w14 ⟨rfl, hb14⟩
  have S14 := Lib.hid (S13.out.belowAll hb14)
  have O14 := Lib.hid (O13.out.below hb14)
  have L14 := Lib.hid (L13.out.below hb14)
  have N14 := Lib.hid (N13.out.below hb14)
  clear hb14 S13 O13 L13 N13
  go_wp2_with fail
  -- what they tell
  refine (all_calls N14.out (by simp [tOne])).mono ?_
  rintro e w15 ⟨rfl, -, hb15⟩
  have S15 := Lib.hid (S14.out.belowAll hb15)
  have O15 := Lib.hid (O14.out.below hb15)
  have L15 := Lib.hid (L14.out.below hb15)
  have N15 := Lib.hid (N14.out.below hb15)
  clear hb15 S14 O14 L14 N14
  go_wp2_with fail
  refine (all_calls N15.out (by simp [tOne])).mono ?_
  rintro e w16 ⟨rfl, htx, hb16⟩
  obtain ⟨a16, c16, hcell16, hs16⟩ := htx.at (i := 0) (by decide)
  have hcell16' : w16.cell? ⟨w15.heap.size, 0, none⟩ = some (.slice a16 3 c16) := hcell16
  have hcv16 : (convert 31 9 (.slice a16 3 c16)).run Tryz.prog w16 = .ok (.string ⟨tOne.toArray⟩) w16 := conv_sl hs16 rfl
  have S16 := Lib.hid (S15.out.belowAll hb16)
  have O16 := Lib.hid (O15.out.below hb16)
  have L16 := Lib.hid (L15.out.below hb16)
  clear hb16 S15 O15 L15 N15 htx hcell16 hs16
  go_wp2_with fail
  refine (all_calls O16.out (by simp [tOne])).mono ?_
  rintro e w17 ⟨rfl, -, hb17⟩
  have S17 := Lib.hid (S16.out.belowAll hb17)
  have L17 := Lib.hid (L16.out.below hb17)
  clear hb17 S16 O16 L16 hcell16' hcv16
  go_wp2_with fail
  refine (all_calls L17.out (by
    intro i hi
    match i, hi with
    | 0, _ => exact (by decide : tOne.length ≤ 1048576)
    | 1, _ => exact (by decide : tTwo.length ≤ 1048576))).mono ?_
  rintro e w18 ⟨rfl, -, hb18⟩
  have hcv18 : (convert 31 9 (.slice ao13 tAb.length c13)).run Tryz.prog w18 = .ok (.string ⟨tAb.toArray⟩) w18 := conv_sl (S17.out.belowAll hb18) rfl
  have L18 := Lib.hid (L17.out.below hb18)
  clear hb18 S17 L17
  go_wp2_with fail
  refine (name_calls 7 (by decide) _ L18.out.tab).mono ?_
  rintro e w19 ⟨rfl, hb19⟩
  have L19 := Lib.hid (L18.out.below hb19)
  clear hb19 L18 hcv18
  go_wp2_with fail
  refine (at_calls L19.out).mono ?_
  rintro e w20 ⟨rfl, rfl⟩
  go_wp2_with fail
  refine (add_form L19.out none 0 [] (by decide)).mono ?_
  rintro e w21 ⟨rfl, rfl⟩
  go_wp2
  go_ret
  exact ⟨rfl, L19.out.1.belowAll⟩

end Go.Proofs.YtjdpglmphacfjaaGreatDoor
