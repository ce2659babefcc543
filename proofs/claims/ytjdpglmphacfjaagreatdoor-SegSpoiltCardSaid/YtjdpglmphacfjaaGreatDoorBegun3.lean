/-
  The walk of the file laws' own 'begun': it answers true, and turns nothing that was there.
-/
import Derived.Test.YtjdpglmphacfjaaGreatDoorDiskFall
namespace Go.Proofs.YtjdpglmphacfjaaGreatDoor
open Go.RowKit

set_option maxHeartbeats 400000 in
theorem begunOne_calls (w : World) : Calls Tryz.prog 62 #[] w fun e w' => e = .returned (.bool true) ∧ Below w.heap.size w w' := by
  go_enter Tryz.func62, Tryz.ntmps62
  go_wp2_with fail
  refine (begun_calls _).mono ?_
  rintro e w1 ⟨rfl, hb⟩
  have HB := Lib.hid hb
  clear hb
  go_wp2
  go_ret
  exact ⟨rfl, HB.out⟩

/-- A slice of bytes as a text. -/
theorem conv_sl {w : World} {ao : Option Addr} {c : Nat} {l : List UInt8} (h : Sl w ao c l) {n : Nat} (hn : n = l.length) : (convert 31 9 (.slice ao n c)).run Tryz.prog w = .ok (.string ⟨l.toArray⟩) w := by
  subst hn
  rcases h with ⟨rfl, rfl, rfl⟩ | ⟨A, rfl, _, _, hc⟩
  · exact nil_text w
  · exact run_convert_bytes_back (P := Tryz.prog) w 31 9 5 A c l Tryz.underlying31 Tryz.underlying5 Tryz.underlying9 (fun j hj => by rw [hc j hj]; simp [List.getD, hj])

/-- A row that a call has handed back, as a slice. -/
theorem row_read {w : World} {B : Nat} {v : Value} {l : List UInt8} (h : w.ownsRow B 5 1 v l.length (u8s l)) : ∃ ao c, v = .slice ao l.length c ∧ Sl w ao c l ∧ ∀ A, ao = some A → B ≤ A.block := Sl.of_owns h

/-- 'make([]byte, n)'. -/
theorem make_bytes (w : World) (n : Nat) (hn : n ≤ 1000000) : (Instr.makeSlice 31 (.int .i64 (n : Int)) (.int .i64 (n : Int))).run Tryz.prog w = .ok (.slice (some ⟨w.heap.size, 0, none⟩) n n) (w.alloc (.cells (madeCells #[.int .u8 0] n) 5)) := by
  obtain ⟨i0, hi, hz0, hz1, hz2⟩ := info_parts Tryz.u8row
  have h := run_make (P := Tryz.prog) w 31 5 i0 (.int .u8 0) Tryz.underlying31 hi hz0 .i64 .i64 (n : Int) (n : Int) (by omega) (by omega) (by rw [hz2]; omega) (by omega)
  rw [hz1] at h
  simp only [Int.toNat_natCast, Nat.mul_one] at h
  exact h

def nA1 : List UInt8 := [97, 49]
def nBig : List UInt8 := [65]
def nB : List UInt8 := [98]
def nC : List UInt8 := [99]
def xyz : List UInt8 := [120, 121, 122]

def f1 : Fm := ⟨nA1, xyz, 0, false⟩
def f2 : Fm := ⟨nA1, xyz, 3, true⟩
def f3 : Fm := ⟨nB, xyz, 3, true⟩

theorem fall_two : mFall 2 [f1] = [] ++ Fm.mk nA1 [120, 121] 2 true :: [] := by rfl
theorem fall_nought : mFall 0 [f1] = [] := by rfl
theorem fall_minus : mFall (-1) [f3] = [] ++ Fm.mk nB xyz 3 true :: [] := by rfl

set_option maxHeartbeats 4000000 in
set_option maxRecDepth 100000 in
theorem begun3_calls (w : World) : Calls Tryz.prog 47 #[] w fun e w' => e = .returned (.bool true) ∧ Below w.heap.size w w' := by
  have kc := fun (wx : World) (C : Array Value) (n c : Nat) => Lib.run_convert_bytes_const (P := Tryz.prog) wx 31 5 C n c Tryz.underlying31 Tryz.underlying5
  go_enter Tryz.func47, Tryz.ntmps47
  go_wp2_with fail
  refine (new_calls 100 _).mono ?_
  rintro e w1 ⟨rfl, hd, hb⟩
  obtain ⟨b, hbb⟩ : ∃ b, b = w.heap.size := ⟨_, rfl⟩
  rw [← hbb] at hd ⊢
  have HD1 := Lib.hid hd
  have B1 := Lib.hid hb
  have HBB := Lib.hid hbb
  clear hd hb hbb
  go_wp2_with fail
  -- "xyz" is appended to "a1"
  have hrow := Sl.marked w1 #[.int .u8 120, .int .u8 121, .int .u8 122] 5 (3, 4) xyz rfl (by decide)
  have t2 : Turn [] w1 (w1.alloc (.cells #[.int .u8 120, .int .u8 121, .int .u8 122] 5 (3, 4))) := Turn.alloc [] w1 _
  have HD2 := Lib.hid (HD1.out.turn t2 (by simp))
  have B2 := Lib.hid (B1.out.trans (t2.below (by simp) B1.out.size))
  have C := append_any (A := []) (B := []) (g := ⟨nA1, [], 0, false⟩) (n := nA1) (bs := xyz) _ HD2.out (.inr ⟨rfl, rfl, rfl, by simp⟩) (by decide) hrow (by
    intro x hx _ hm
    cases hx
    have h1 := HD1.out.lt _ hm
    exact Nat.lt_irrefl _ h1) (by decide)
  refine C.mono ?_
  rintro e w3 ⟨rfl, ht3, l3, hd3, hl3⟩
  have HD3 := Lib.hid (show DiskM w3 b (roomOf 100) l3 [f1] from hd3)
  have hL3 : ∀ i ∈ l3, w.heap.size ≤ i := by
    intro i hi
    rcases hl3 i hi with h | h
    · have h1 : i = b := by simpa using h
      have h2 := HBB.out
      omega
    · exact Nat.le_trans B2.out.size h
  have HL3 := Lib.hid hL3
  have hbl : ∀ k ∈ [b], w.heap.size ≤ k := by
    intro k hk
    have h1 : k = b := by simpa using hk
    have h2 := HBB.out
    omega
  have B3 := Lib.hid (B2.out.trans (ht3.below hbl B2.out.size))
  clear C hrow t2 hd3 hl3 ht3 hL3 hbl
  go_wp2_with fail
  refine (append_form (n := nBig) _ (by decide) (by decide)).mono ?_
  rintro e w' ⟨rfl, rfl⟩
  go_wp2_with fail
  -- behind a fall of 2
  refine (fall_calls 2 (by decide) _ HD3.out (by decide)).mono ?_
  rintro e w4 ⟨b4, l4, rfl, hd4, hb4, hl4⟩
  rw [fall_two] at hd4
  have HD4 := Lib.hid hd4
  have HD3' := Lib.hid (HD3.out.belowAll hb4)
  have B4 := Lib.hid (B3.out.trans (hb4.mono B3.out.size))
  clear hd4 hb4 hl4
  go_wp2_with fail
  refine (read_some _ HD4.out).mono ?_
  rintro e w5 ⟨v, rfl, hrow, hb5⟩
  obtain ⟨ao5, c5, rfl, hs5, ha5⟩ := row_read hrow
  have HS5 := Lib.hid hs5
  have HA5 := Lib.hid (show ∀ A, ao5 = some A → A.block ∉ l3 from fun A hA hm => by have h1 := ha5 A hA; have h2 := HD3'.out.lt _ hm; omega)
  have HD5 := Lib.hid (HD3'.out.belowAll hb5)
  have B5 := Lib.hid (B4.out.trans (hb5.mono B4.out.size))
  clear hrow hs5 ha5 hb5 HD4 HD3'
  go_wp2_with fail
  -- behind a fall of 0
  refine (fall_calls 0 (by decide) _ HD5.out (by decide)).mono ?_
  rintro e w6 ⟨b6, l6, rfl, hd6, hb6, hl6⟩
  rw [fall_nought] at hd6
  have HD6 := Lib.hid hd6
  have HD6' := Lib.hid (HD5.out.belowAll hb6)
  have HS6 := Lib.hid (HS5.out.belowAll hb6)
  have B6 := Lib.hid (B5.out.trans (hb6.mono B5.out.size))
  clear hd6 hb6 hl6
  go_wp2_with fail
  refine (read_none (n := nA1) _ HD6.out (by simp) (by decide)).mono ?_
  rintro e w' ⟨rfl, rfl⟩
  clear HD6 HD5 HS5
  go_wp2_with fail
  -- synced, renamed, deleted
  refine (sync_some (M1 := []) (M2 := []) (f := f1) _ HD6'.out).mono ?_
  rintro e w7 ⟨rfl, hd7, ht7⟩
  have HD7 := Lib.hid (show DiskM w7 b (roomOf 100) l3 [f2] from hd7)
  have HS7 := Lib.hid (HS6.out.turn ht7 (fun A hA _ => HA5.out A hA))
  have B7 := Lib.hid (B6.out.trans (ht7.below HL3.out B6.out.size))
  clear hd7 ht7 HD6' HS6
  go_wp2_with fail
  refine (rename_some (A := []) (B := []) (g := f2) (n := nB) _ HD7.out (by decide) (by rfl)).mono ?_
  rintro e w8 ⟨rfl, ht8, l8, hd8, hl8⟩
  have HD8 := Lib.hid (show DiskM w8 b (roomOf 100) l8 [f3] from hd8)
  have HS8 := Lib.hid (HS7.out.turn ht8 (fun A hA _ => HA5.out A hA))
  have B8 := Lib.hid (B7.out.trans (ht8.below HL3.out B7.out.size))
  clear hd8 ht8 hl8 HD7 HS7
  go_wp2_with fail
  refine (delete_none (n := nA1) _ HD8.out (by decide) (by decide)).mono ?_
  rintro e w' ⟨rfl, rfl⟩
  go_wp2_with fail
  -- behind a fall of -1
  refine (fall_calls (-1) (by decide) _ HD8.out (by decide)).mono ?_
  rintro e w9 ⟨b9, l9, rfl, hd9, hb9, hl9⟩
  rw [fall_minus] at hd9
  have HD9 := Lib.hid hd9
  have HD9' := Lib.hid (HD8.out.belowAll hb9)
  have HS9 := Lib.hid (HS8.out.belowAll hb9)
  have B9 := Lib.hid (B8.out.trans (hb9.mono B8.out.size))
  clear hd9 hb9 hl9
  go_wp2_with fail
  refine (read_some _ HD9.out).mono ?_
  rintro e w10 ⟨v, rfl, hrow, hb10⟩
  obtain ⟨ao10, c10, rfl, hs10, ha10⟩ := row_read hrow
  have HT10 := Lib.hid hs10
  have HS10 := Lib.hid (HS9.out.belowAll hb10)
  have HD10 := Lib.hid (HD9'.out.belowAll hb10)
  have B10 := Lib.hid (B9.out.trans (hb10.mono B9.out.size))
  clear hrow hs10 ha10 hb10 HD9 HD9' HS9
  go_wp2_with fail
  -- the law of bytes
  refine (begunOne_calls _).mono ?_
  rintro e w11 ⟨rfl, hb11⟩
  have HT11 := Lib.hid (HT10.out.belowAll hb11)
  have HS11 := Lib.hid (HS10.out.belowAll hb11)
  have HD11 := Lib.hid (HD10.out.belowAll hb11)
  have B11 := Lib.hid (B10.out.trans (hb11.mono B10.out.size))
  clear hb11 HT10 HS10 HD10
  have q1 := conv_sl HS11.out (n := 2) rfl
  have q2 := conv_sl (l := [120, 121, 122]) HT11.out (n := xyz.length) rfl
  go_wp2_with fail
  refine (sure_some (M1 := []) (M2 := []) (f := f3) _ HD11.out).mono ?_
  rintro e w' ⟨rfl, rfl⟩
  go_wp2_with fail
  refine (used_calls _ _ _ _ _ HD11.out).mono ?_
  rintro e w' ⟨rfl, rfl⟩
  have q3 : (Instr.makeSlice 31 (.int .i64 98) (.int .i64 98)).run Tryz.prog w11 = .ok (.slice (some ⟨w11.heap.size, 0, none⟩) 98 98) (w11.alloc (.cells (madeCells #[.int .u8 0] 98) 5)) := make_bytes w11 98 (by decide)
  go_wp2_with fail
  refine (append_full (n := nC) (k := 98) _ (HD11.out.turn (Turn.alloc [] _ _) (by simp)) (by decide) (by decide)).mono ?_
  rintro e w12 ⟨rfl, ht12⟩
  have B12 := Lib.hid (B11.out.trans (((new_below w11 _).trans (ht12.belowAll.mono (by simp))).mono B11.out.size))
  clear ht12
  go_wp2
  go_ret
  exact ⟨rfl, B12.out⟩

end Go.Proofs.YtjdpglmphacfjaaGreatDoor
