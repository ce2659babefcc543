/-
  The walk of the law TimerAges.
-/
import Derived.Test.YtikbldnekehodaaBegun6
import Derived.Test.YtikbldnekehodaaAges
import Derived.Test.YtikbldnekehodaaIl
import Derived.Deep.CutBlock
import Derived.Deep.CutRange
namespace Go.Proofs.Ytikbldnekehodaa
open Go.RowKit

/-- The array while it is laid. -/
def filled (k : Nat) : List Int := List.replicate k (-1) ++ List.replicate (4 - k) 0

theorem filled_set {k : Nat} (hk : k < 4) : (filled k).set k (-1) = filled (k + 1) := by
  have : k = 0 ∨ k = 1 ∨ k = 2 ∨ k = 3 := by omega
  rcases this with rfl | rfl | rfl | rfl <;> rfl

theorem rest4 (y : Int) : (y.tmod 4 + 4).tmod 4 = y % 4 := by
  have h0 := Int.tmod_eq_emod (a := y) (b := 4)
  have h1 : 0 ≤ y.tmod 4 + 4 := by
    rw [h0]
    split <;> omega
  rw [Int.tmod_eq_emod_of_nonneg h1, h0]
  split <;> omega

set_option maxHeartbeats 4000000 in
set_option maxRecDepth 100000 in
theorem timerAges_walk {w : World} (a0 : Option Addr) (c0 : Nat) (l0 : List Int) (w0 : Il w a0 c0 l0) (n : Int) (_hn : (Lit.int .i64 n).wf = true) :
    Calls Try.prog 10 #[.slice a0 l0.length c0, .int .i64 n] w fun e w' => e = .returned (.bool true) ∧ Below w.heap.size w w' := by
  have hlen := w0.len
  have H0 := Lib.hid w0
  clear w0
  obtain ⟨n0, hn0⟩ : ∃ n0, n0 = l0.length := ⟨_, rfl⟩
  have HN0 := Lib.hid hn0
  rw [← hn0] at hlen ⊢
  clear hn0
  go_enter Try.func10, Try.ntmps10
  go_wp2_with fail
  refine (begun6_calls w).mono ?_
  rintro e w1 ⟨rfl, b1⟩
  have B1 := Lib.hid b1
  clear b1
  by_cases hlt : n < 0
  · go_wp2
    go_ret
    exact ⟨rfl, B1.out⟩
  by_cases hgt : 30 < n
  · go_wp2
    go_ret
    exact ⟨rfl, B1.out⟩
  go_wp2_with fail
  refine (S.T.new_calls 5 (by unfold S.inI64; omega) w1).mono ?_
  rintro e w2 ⟨rfl, h2, t2⟩
  obtain ⟨b, hb⟩ : ∃ b, b = w1.heap.size := ⟨_, rfl⟩
  have O2 := Lib.hid (S.T.LT.new B1.out h2 t2)
  rw [← hb] at O2 ⊢
  obtain ⟨q, hq⟩ : ∃ q, q = w2.heap.size := ⟨_, rfl⟩
  have A3 : Hid (Ag w (w2.alloc (.cells #[.int .i64 0, .int .i64 0, .int .i64 0, .int .i64 0] 55)) b q 0 [-1, -1, -1, -1] (filled 0) (.slice none 0 0)) := Lib.hid (by
    have hbs : b < w2.heap.size := lt_of_heap O2.out.tim.head
    exact ⟨O2.out.quiet (Turn.alloc [] w2 _), by rw [hq]; exact heap_alloc_new w2 _, by rw [hq]; exact O2.out.bel.size, by omega, (by intro e; cases e), rfl, rfl,
      (fun j hj => by
        have : j = 0 ∨ j = 1 ∨ j = 2 ∨ j = 3 := by omega
        rcases this with rfl | rfl | rfl | rfl <;> exact ⟨by decide, by decide⟩),
      (fun j hj => by
        have : j = 0 ∨ j = 1 ∨ j = 2 ∨ j = 3 := by omega
        rcases this with rfl | rfl | rfl | rfl <;> exact ⟨by decide, by decide⟩)⟩)
  clear h2 t2 B1 hb O2
  go_wp2_with fail
  rw [← hq]
  clear hq
  go_loopw [26] (fun vk wx => ∃ k : Nat, k ≤ 4 ∧ vk = .int .i64 (k : Int) ∧ Ag w wx b q 0 [-1, -1, -1, -1] (filled k) (.slice none 0 0)) (fun vk _ => 4 - (intOf vk).toNat)
  case atStart => exact ⟨0, by omega, rfl, A3.out⟩
  case round =>
    obtain ⟨k, hk, rfl, ho⟩ := hrel
    have O := Lib.hid ho
    clear ho A3
    by_cases hk4 : k < 4
    · have hcn := O.out.cell hk4
      have hfz : wr.frozen? ⟨q, k, none⟩ = false := unfrozen_of O.out.arr
      have hb4 : 0 ≤ (k : Int) ∧ (k : Int) < 4 := by omega
      have O2 := Lib.hid (O.out.store hk4 (x := -1) (by omega))
      rw [filled_set hk4] at O2
      obtain ⟨c, hc⟩ : ∃ c, c = (filled k).getD k 0 := ⟨_, rfl⟩
      rw [← hc] at hcn
      clear O hc
      go_wp2
      go_roundw
      case rel => exact ⟨k + 1, by omega, by go_num, O2.out⟩
      case measure => simp [intOf]; omega
    · obtain rfl : k = 4 := by omega
      have A4 : Hid (Ag w wr b q ((0 : Nat) : Int) [-1, -1, -1, -1] [-1, -1, -1, -1] (.slice none 0 0)) := Lib.hid O.out
      clear O
      go_wp2_with fail
      go_loopw [9] (fun vi wx => ∃ (k : Nat) (C : List Int) (v : Value), (k : Int) ≤ n ∧ vi = .int .i64 (k : Int) ∧ Ag w wx b q (k : Int) C C v) (fun vi _ => 31 - (intOf vi).toNat)
      case atStart => exact ⟨0, _, _, by omega, rfl, A4.out⟩
      case round =>
        obtain ⟨k, C, v, hk, rfl, ho⟩ := hrel
        have O := Lib.hid ho
        clear ho A4
        by_cases hkn : (k : Int) < n
        · by_cases hks : k < n0
          · obtain ⟨ob, off, rfl, hob, hop⟩ := H0.out.at (by intro e; rw [← List.length_eq_zero_iff] at e; have := HN0.out; omega)
            have hcell := (O.out.lt.bel.cell (p := ⟨ob, off + k, none⟩) hob).trans (hop k (by rw [← HN0.out]; exact hks))
            obtain ⟨y, hy⟩ : ∃ y, y = l0.getD k 0 := ⟨_, rfl⟩
            have hyb := H0.out.bound k
            rw [← hy] at hcell hyb
            have ea := rest4 y
            have ba : -4 < y.tmod 4 ∧ y.tmod 4 < 4 := by
              rw [Int.tmod_eq_emod (a := y) (b := 4)]
              split <;> omega
            obtain ⟨j, hj⟩ : ∃ j : Nat, y % 4 = (j : Int) := ⟨(y % 4).toNat, by omega⟩
            rw [hj] at ea
            have hj4 : j < 4 := by omega
            have hcn := O.out.cell hj4
            obtain ⟨c, hc⟩ : ∃ c, c = C.getD j 0 := ⟨_, rfl⟩
            have hlow := O.out.low j hj4
            rw [← hc] at hcn hlow
            have HC : Hid (∀ wx, Turn [] wr wx → Calls Try.prog 29 #[.pointer (some ⟨b, 0, none⟩), .string (tx j)] wx fun e w' => e = .returned (.bool (decide (c < 0))) ∧
                w'.cell? ⟨q, j, none⟩ = some (.int .i64 c) ∧ w'.frozen? ⟨q, j, none⟩ = false ∧ ∃ v', Ag w (w'.setCell ⟨q, j, none⟩ (.int .i64 (k : Int))) b q (k : Int) (C.set j (k : Int)) (C.set j (k : Int)) v') := Lib.hid (fun wx tw => by
              have A := (O.out.quiet tw).heard hj4 (by omega)
              rw [← hc] at A
              refine A.mono ?_
              rintro e w' ⟨v', rfl, o'⟩
              exact ⟨rfl, by rw [hc]; exact o'.cell hj4, unfrozen_of o'.arr, v', o'.store hj4 (by omega)⟩)
            have hb : 0 ≤ (k : Int) ∧ (k : Int) < (n0 : Int) := by omega
            have hbj : 0 ≤ (j : Int) ∧ (j : Int) < 4 := by omega
            have hwb : IntKind.u8.wrap (97 + (j : Int)) = 97 + (j : Int) := by rw [IntKind.wrap_u8]; omega
            have hwi : IntKind.i64.wrap (97 + (j : Int)) = 97 + (j : Int) := by rw [IntKind.wrap_i64]; omega
            have cv : ∀ wx : World, (convert 56 9 (.slice (some ⟨wx.heap.size, 0, none⟩) 1 1)).run Try.prog (wx.alloc (.cells #[.int .u8 (97 + (j : Int))] 5)) = .ok (.string (tx j)) (wx.alloc (.cells #[.int .u8 (97 + (j : Int))] 5)) := fun wx => one_text _ _ hj4 (cell_new wx _ _)
            have cvd : ∀ wx : World, (convert 56 9 (.slice (some ⟨wx.heap.size, 0, none⟩) 1 1)).run Try.prog (wx.alloc (.cells #[.int .u8 (97 + (j : Int))] 5)).drew = .ok (.string (tx j)) (wx.alloc (.cells #[.int .u8 (97 + (j : Int))] 5)).drew := fun wx => one_text _ _ hj4 (cell_new wx _ _)
            have hcna : (wr.alloc (.cells #[.int .u8 (97 + (j : Int))] 5)).cell? ⟨q, j, none⟩ = some (.int .i64 c) := (Turn.alloc [] wr _).cell hcn (by simp)
            clear hop hy hj hc
            go_upto_region 18 with fail
            go_cut [59] from 48 to 59 (fun vt wx => vt = .bool false ∧ wx.cell? ⟨q, j, none⟩ = some (.int .i64 c) ∧ wx.frozen? ⟨q, j, none⟩ = false ∧ ∃ v', Ag w (wx.setCell ⟨q, j, none⟩ (.int .i64 (k : Int))) b q (k : Int) (C.set j (k : Int)) (C.set j (k : Int)) v')
            case first =>
              go_region_with (go_at_call 29; refine (HC.out _ ?h1).mono ?_; (case h1 => first | exact (Turn.alloc [] wr _).trans (Turn.drew [] _) (by simp) | exact (Turn.drew [] wr).trans (Turn.alloc [] _ _) (by simp)); rintro e w5 ⟨rfl, p1, p2, v5, o5⟩; have O5 := Lib.hid o5; clear o5)
              all_goals
                go_wp2_with fail
                go_meet
                case rel => exact ⟨by simp, p1, p2, v5, O5.out⟩
            case rest =>
              obtain ⟨rfl, p1, p2, v5, o⟩ := hcut
              obtain ⟨C2, hC2⟩ : ∃ C2, C2 = C.set j (k : Int) := ⟨_, rfl⟩
              rw [← hC2] at o
              have O := Lib.hid o
              clear o hC2
              go_wp2_with fail
              clear p1 p2
              refine (Ag.tick O.out (by omega)).mono ?_
              rintro e w5 ⟨ao5, c5, rfl, o5⟩
              have O5 := Lib.hid o5
              clear o5 O
              have hz5 : silN 5 ((k : Int) + 1) C2 ≤ 4 := by have := silN_le 5 ((k : Int) + 1) C2; have := O5.out.four; omega
              obtain ⟨z, hz⟩ : ∃ z, z = silN 5 ((k : Int) + 1) C2 := ⟨_, rfl⟩
              have HZ := Lib.hid hz
              rw [← hz] at hz5 ⊢
              clear hz
              go_wp2_with fail
              go_loopw [12, 65] (fun vs vj wx => ∃ m : Nat, m ≤ 4 ∧ vj = .int .i64 (m : Int) ∧ vs = .int .i64 ((silN 5 ((k : Int) + 1) (C2.take m) : Nat) : Int) ∧ wx = w5) (fun _ vj _ => 4 - (intOf vj).toNat)
              case atStart => exact ⟨0, by omega, rfl, rfl, rfl⟩
              case round =>
                obtain ⟨m, hm4, rfl, rfl, rfl⟩ := hrel
                have L4 := O5.out.four
                by_cases hm : m < 4
                · have hcn := O5.out.cell hm
                  have hlow := O5.out.low m hm
                  have hT := silN_take 5 ((k : Int) + 1) C2 m (by rw [L4]; exact hm)
                  have hs4 : silN 5 ((k : Int) + 1) (C2.take m) ≤ 4 := by
                    have := silN_le 5 ((k : Int) + 1) (C2.take m)
                    rw [List.length_take] at this
                    omega
                  obtain ⟨s, hs⟩ : ∃ s, s = silN 5 ((k : Int) + 1) (C2.take m) := ⟨_, rfl⟩
                  obtain ⟨c, hc⟩ : ∃ c, c = C2.getD m 0 := ⟨_, rfl⟩
                  rw [← hc] at hcn hlow hT
                  rw [← hs] at hT hs4 ⊢
                  have hb4 : 0 ≤ (m : Int) ∧ (m : Int) < 4 := by omega
                  clear hs hc L4
                  by_cases h0 : 0 ≤ c
                  · by_cases h5 : 5 ≤ (k : Int) + 1 - c
                    · rw [if_pos ⟨h0, h5⟩] at hT
                      have HT := Lib.hid hT
                      clear hT
                      go_wp2
                      go_roundw
                      case rel => exact ⟨m + 1, by omega, by go_num, by rw [HT.out]; go_num, trivial⟩
                      case measure => simp [intOf]; omega
                    · rw [if_neg (fun h => h5 h.2)] at hT
                      have HT := Lib.hid hT
                      clear hT
                      go_wp2
                      go_roundw
                      case rel => exact ⟨m + 1, by omega, by go_num, by rw [HT.out]; rfl, trivial⟩
                      case measure => simp [intOf]; omega
                  · rw [if_neg (fun h => h0 h.1)] at hT
                    have HT := Lib.hid hT
                    clear hT
                    go_wp2
                    go_roundw
                    case rel => exact ⟨m + 1, by omega, by go_num, by rw [HT.out]; rfl, trivial⟩
                    case measure => simp [intOf]; omega
                · have hm4' : m = 4 := by omega
                  have hzz : silN 5 ((k : Int) + 1) (C2.take m) = z := by rw [hm4', List.take_of_length_le (by omega), HZ.out]
                  rw [hzz]
                  have O6 : Hid (Ag w wr b q ((k + 1 : Nat) : Int) C2 C2 v5) := Lib.hid (by rw [Int.natCast_succ]; exact O5.out)
                  clear hzz O5 L4
                  go_wp2
                  go_roundw
                  case rel => (repeat apply Exists.intro); exact ⟨⟨k + 1, C2, v5, by omega, by go_num, O6.out⟩, rfl⟩
                  case measure => simp [intOf]; omega
          · go_wp2_with fail
            refine (Ag.tick O.out (by omega)).mono ?_
            rintro e w5 ⟨ao5, c5, rfl, o5⟩
            have O5 := Lib.hid o5
            clear o5 O
            have hz5 : silN 5 ((k : Int) + 1) C ≤ 4 := by have := silN_le 5 ((k : Int) + 1) C; have := O5.out.four; omega
            obtain ⟨z, hz⟩ : ∃ z, z = silN 5 ((k : Int) + 1) C := ⟨_, rfl⟩
            have HZ := Lib.hid hz
            rw [← hz] at hz5 ⊢
            clear hz
            go_wp2_with fail
            go_loopw [12, 65] (fun vs vj wx => ∃ m : Nat, m ≤ 4 ∧ vj = .int .i64 (m : Int) ∧ vs = .int .i64 ((silN 5 ((k : Int) + 1) (C.take m) : Nat) : Int) ∧ wx = w5) (fun _ vj _ => 4 - (intOf vj).toNat)
            case atStart => exact ⟨0, by omega, rfl, rfl, rfl⟩
            case round =>
              obtain ⟨m, hm4, rfl, rfl, rfl⟩ := hrel
              have L4 := O5.out.four
              by_cases hm : m < 4
              · have hcn := O5.out.cell hm
                have hlow := O5.out.low m hm
                have hT := silN_take 5 ((k : Int) + 1) C m (by rw [L4]; exact hm)
                have hs4 : silN 5 ((k : Int) + 1) (C.take m) ≤ 4 := by
                  have := silN_le 5 ((k : Int) + 1) (C.take m)
                  rw [List.length_take] at this
                  omega
                obtain ⟨s, hs⟩ : ∃ s, s = silN 5 ((k : Int) + 1) (C.take m) := ⟨_, rfl⟩
                obtain ⟨c, hc⟩ : ∃ c, c = C.getD m 0 := ⟨_, rfl⟩
                rw [← hc] at hcn hlow hT
                rw [← hs] at hT hs4 ⊢
                have hb4 : 0 ≤ (m : Int) ∧ (m : Int) < 4 := by omega
                clear hs hc L4
                by_cases h0 : 0 ≤ c
                · by_cases h5 : 5 ≤ (k : Int) + 1 - c
                  · rw [if_pos ⟨h0, h5⟩] at hT
                    have HT := Lib.hid hT
                    clear hT
                    go_wp2
                    go_roundw
                    case rel => exact ⟨m + 1, by omega, by go_num, by rw [HT.out]; go_num, trivial⟩
                    case measure => simp [intOf]; omega
                  · rw [if_neg (fun h => h5 h.2)] at hT
                    have HT := Lib.hid hT
                    clear hT
                    go_wp2
                    go_roundw
                    case rel => exact ⟨m + 1, by omega, by go_num, by rw [HT.out]; rfl, trivial⟩
                    case measure => simp [intOf]; omega
                · rw [if_neg (fun h => h0 h.1)] at hT
                  have HT := Lib.hid hT
                  clear hT
                  go_wp2
                  go_roundw
                  case rel => exact ⟨m + 1, by omega, by go_num, by rw [HT.out]; rfl, trivial⟩
                  case measure => simp [intOf]; omega
              · have hm4' : m = 4 := by omega
                have hzz : silN 5 ((k : Int) + 1) (C.take m) = z := by rw [hm4', List.take_of_length_le (by omega), HZ.out]
                rw [hzz]
                have O6 : Hid (Ag w wr b q ((k + 1 : Nat) : Int) C C v) := Lib.hid (by rw [Int.natCast_succ]; exact O5.out)
                clear hzz O5 L4
                go_wp2
                go_roundw
                case rel => (repeat apply Exists.intro); exact ⟨⟨k + 1, C, v, by omega, by go_num, O6.out⟩, rfl⟩
                case measure => simp [intOf]; omega
        · have hkn2 : (k : Int) = n := by omega
          go_wp2_with fail
          go_loopw [88] (fun vj wx => ∃ m : Nat, m ≤ 4 ∧ vj = .int .i64 (m : Int) ∧ Ag w wx b q (k : Int) C C v) (fun vj _ => 4 - (intOf vj).toNat)
          case atStart => exact ⟨0, by omega, rfl, O.out⟩
          case round =>
            obtain ⟨m, hm4, rfl, ho⟩ := hrel
            have P := Lib.hid ho
            clear ho O
            by_cases hm : m < 4
            · have hcn := P.out.cell hm
              have hlow := P.out.low m hm
              obtain ⟨c, hc⟩ : ∃ c, c = C.getD m 0 := ⟨_, rfl⟩
              have HA : Hid (∀ wx, Turn [] wr wx → Calls Try.prog 31 #[.pointer (some ⟨b, 0, none⟩), .string (tx m)] wx fun e w' => e = .returned (.int .i64 (if 0 ≤ c then n - c else -1)) ∧ Ag w w' b q (k : Int) C C v) := Lib.hid (fun wx tw => by
                have A := (P.out.quiet tw).age hm
                rw [← hc, hkn2] at A
                refine A.mono ?_
                rintro e w' ⟨rfl, t⟩
                exact ⟨rfl, (P.out.quiet tw).quiet t⟩)
              rw [← hc] at hcn hlow
              have hbj : 0 ≤ (m : Int) ∧ (m : Int) < 4 := by omega
              have hwb : IntKind.u8.wrap (97 + (m : Int)) = 97 + (m : Int) := by rw [IntKind.wrap_u8]; omega
              have hwi : IntKind.i64.wrap (97 + (m : Int)) = 97 + (m : Int) := by rw [IntKind.wrap_i64]; omega
              have cv : ∀ wx : World, (convert 56 9 (.slice (some ⟨wx.heap.size, 0, none⟩) 1 1)).run Try.prog (wx.alloc (.cells #[.int .u8 (97 + (m : Int))] 5)) = .ok (.string (tx m)) (wx.alloc (.cells #[.int .u8 (97 + (m : Int))] 5)) := fun wx => one_text _ _ hm (cell_new wx _ _)
              clear hc P
              by_cases h0 : 0 ≤ c
              · rw [if_pos h0] at HA
                go_wp2_with fail
                refine (HA.out _ (Turn.alloc [] wr _)).mono ?_
                rintro e w5 ⟨rfl, o5⟩
                have O5 := Lib.hid o5
                clear o5 HA
                go_wp2
                go_roundw
                case rel => exact ⟨m + 1, by omega, by go_num, O5.out⟩
                case measure => simp [intOf]; omega
              · rw [if_neg h0] at HA
                go_wp2_with fail
                refine (HA.out _ (Turn.alloc [] wr _)).mono ?_
                rintro e w5 ⟨rfl, o5⟩
                have O5 := Lib.hid o5
                clear o5 HA
                go_wp2
                go_roundw
                case rel => exact ⟨m + 1, by omega, by go_num, O5.out⟩
                case measure => simp [intOf]; omega
            · have hm4' : m = 4 := by omega
              have B := Lib.hid P.out.lt.bel
              clear P
              go_wp2
              go_ret
              exact ⟨rfl, B.out⟩

end Go.Proofs.Ytikbldnekehodaa
