/-
  The walk of the law FileRoom.
-/
import Derived.Test.YtlcilbbgfilefaaFn
import Derived.Deep.RegionWith
namespace Go.Proofs.Ytlcilbbgfilefaa
open Go.RowKit

theorem made_sl (w : World) (n : Nat) (hn : n ≤ 1000000) : Sl (w.alloc (.cells (madeCells #[.int .u8 0] n) 5)) (some ⟨w.heap.size, 0, none⟩) n (List.replicate n 0) := by
  refine .inr ⟨_, rfl, by simp, by unfold maxLen; omega, fun i hi => ?_⟩
  simp at hi
  rw [Addr.add_lit, Nat.zero_add, cell_of_row _ w.heap.size i _ _ (0, 0) (heap_alloc_new w _)]
  simp [madeCells, hi, Nat.mod_one]

theorem mApp_tot {M : List Fm} (n bs : List UInt8) (hnd : (M.map Fm.name).Nodup) : tot (mApp n bs M) = tot M + bs.length := by
  unfold mApp
  by_cases hh : hasF M n = true
  · rw [if_pos hh]
    obtain ⟨A, g, B, rfl, rfl⟩ := hasF_split hh
    rw [mUp_split _ hnd]
    simp only [tot_append, tot_cons, longer, List.length_append]
    omega
  · rw [if_neg hh, tot_append]
    simp [tot]

/-- Append of a new slice, however it goes. -/
theorem dk_append_new {wq w0 w : World} {b room : Nat} {M : List Fm} {n bs : List UInt8} {ao : Option Addr} {c : Nat} (h : Dk wq w0 b room M) (hn : n.length ≤ 9223372036854775807) (ht : Turn [] w0 w) (hs : Sl w ao c bs) (ha : ∀ A, ao = some A → w0.heap.size ≤ A.block) :
    Calls Try.prog 21 #[.pointer (some ⟨b, 0, none⟩), .string ⟨n.toArray⟩, .slice ao bs.length c] w fun e w' => e = .returned (.int .i64 (appE room M n bs)) ∧ Dk wq w' b room (appM room M n bs) := by
  obtain ⟨h1, l, h2, h3⟩ := h
  refine (append_fn w (h2.turn ht (by simp)) hn hs (fun x hx _ hm => ?_)).mono ?_
  · have := ha x hx
    have := h2.lt _ hm
    omega
  · rintro e w' ⟨rfl, ht', l', hd, hl⟩
    refine ⟨rfl, (h1.trans (ht.belowAll.mono h1.size)).trans (ht'.below h3 (Nat.le_trans h1.size ht.size)), l', hd, fun i hi => ?_⟩
    rcases hl i hi with h | h
    · exact h3 i h
    · have := h1.size; have := ht.size; omega

theorem one_sl (w : World) (sg : UInt8) {x : Int} (hx : (sg.toNat : Int) = x) : Sl (w.alloc (.cells #[.int .u8 x] 5)) (some ⟨w.heap.size, 0, none⟩) 1 [sg] := by
  subst hx
  refine .inr ⟨_, rfl, by simp, by unfold maxLen; omega, fun i hi => ?_⟩
  have : i = 0 := by simpa using hi
  subst this
  rw [Addr.add_lit, Nat.zero_add, cell_of_row _ w.heap.size 0 _ _ (0, 0) (heap_alloc_new w _)]
  rfl

/-- A name of one sign, made in memory. -/
theorem sign_text (w w' : World) (sg : UInt8) {x : Int} (hx : (sg.toNat : Int) = x) (ht : Turn [] (w.alloc (.cells #[.int .u8 x] 5)) w') :
    (convert 30 9 (.slice (some ⟨w.heap.size, 0, none⟩) 1 1)).run Try.prog w' = .ok (.string ⟨#[sg]⟩) w' := conv_sl ((one_sl w sg hx).turn ht (by simp)) rfl

/-- An append of n noughts that were made at or behind wr. -/
theorem room_calls {x1 wr w : World} {b R : Nat} {M : List Fm} (h : Dk x1 wr b R M) (sg : UInt8) (hok : okName [sg] = true) (nn a : Nat) (ht : Turn [] wr w) (hs : Sl w (some ⟨a, 0, none⟩) nn (List.replicate nn 0)) (ha : wr.heap.size ≤ a) :
    (R < tot M + nn → Calls Try.prog 21 #[.pointer (some ⟨b, 0, none⟩), .string ⟨#[sg]⟩, .slice (some ⟨a, 0, none⟩) nn nn] w fun e w' => e = .returned (.int .i64 5) ∧ Dk x1 w' b R M) ∧
    (¬ R < tot M + nn → Calls Try.prog 21 #[.pointer (some ⟨b, 0, none⟩), .string ⟨#[sg]⟩, .slice (some ⟨a, 0, none⟩) nn nn] w fun e w' => e = .returned (.int .i64 0) ∧ ∃ M', Dk x1 w' b R M' ∧ tot M' = tot M + nn) := by
  have hnd : (M.map Fm.name).Nodup := by obtain ⟨_, l, h2, _⟩ := h; exact h2.nodup
  have C := dk_append_new (n := [sg]) (bs := List.replicate nn 0) h (by simp) ht hs (fun A hA => by cases hA; exact ha)
  rw [List.length_replicate] at C
  unfold appE appM at C
  rw [if_pos hok, if_pos hok, List.length_replicate] at C
  refine ⟨fun hr => ?_, fun hr => ?_⟩
  · rw [if_pos hr, if_pos hr] at C
    exact C
  · rw [if_neg hr, if_neg hr] at C
    refine C.mono ?_
    rintro e w' ⟨rfl, hd⟩
    exact ⟨rfl, _, hd, by rw [mApp_tot _ _ hnd]; simp⟩

set_option maxHeartbeats 4000000 in
set_option maxRecDepth 100000 in
theorem fileRoom_walk (a0 : Int) (w0 : (Lit.int .i64 a0).wf = true) {w : World} (a1 : Option Addr) (c1 : Nat) (l1 : List Int) (h1 : Il w a1 c1 l1) :
    Calls Try.prog 5 #[.int .i64 a0, .slice a1 l1.length c1] w fun e w' => e = .returned (.bool true) ∧ Below w.heap.size w w' := by
  obtain ⟨i0, hi, hz0, hz1, hz2⟩ := info_parts Try.u8row
  have hb := bounds_i64 w0
  obtain ⟨rm, hrm⟩ : ∃ rm : Int, rm = min a0 5000 := ⟨_, rfl⟩
  obtain ⟨R, hR⟩ : ∃ R : Nat, (R : Int) = max 0 rm := ⟨(max 0 rm).toNat, by omega⟩
  have hR2 : roomOf rm = R := by unfold roomOf; omega
  have hRb : R ≤ 5000 := by omega
  have H1 := Lib.hid h1
  have HR2 := Lib.hid hR2
  have HR := Lib.hid hR
  have hlen : (l1.length : Int) ≤ 9223372036854775807 := by
    rcases h1 with ⟨_, _, rfl⟩ | ⟨A, _, q1, q2, _⟩
    · simp
    · unfold maxLen at q2; omega
  have HRM := Lib.hid hrm
  clear h1 hR2 hR hi w0 hrm hz0 hz1 hz2
  have hcase : a0 ≤ 5000 ∨ 5000 < a0 := by omega
  rcases hcase with hc | hc
  · have hdc : decide (5000 < a0) = false := by simpa using hc
    have hra : a0 = rm := by rw [HRM.out]; omega
    have HRA := Lib.hid hra
    clear hra
    go_enter Try.func5, Try.ntmps5
    go_wp2_with fail
    refine (begun3_calls _).mono ?_
    rintro e x1 ⟨rfl, hb1⟩
    have B1 := Lib.hid hb1
    clear hb1
    go_wp2_with fail
    refine (dk_new a0 _).mono ?_
    rintro e x2 ⟨rfl, hd⟩
    rw [HRA.out, HR2.out] at hd
    obtain ⟨b, hbb⟩ : ∃ b, b = x1.heap.size := ⟨_, rfl⟩
    rw [← hbb] at hd ⊢
    have D2 := Lib.hid hd
    clear hd hbb
    go_wp2_with fail
    rw [HRA.out] at hb hc hdc ⊢
    go_loopw [7, 8] (fun u i wr => ∃ (k : Nat) (M : List Fm), k ≤ l1.length ∧ i = .int .i64 k ∧ u = .int .i64 (tot M : Nat) ∧ Dk x1 wr b R M) (fun _ i _ => l1.length - (intOf i).toNat)
    case atStart => exact ⟨0, [], by omega, rfl, rfl, D2.out⟩
    case round =>
      obtain ⟨k, M, hk, rfl, rfl, hd⟩ := hrel
      have Dk := Lib.hid hd
      have hT : tot M ≤ R := by obtain ⟨_, l, h2, _⟩ := hd; exact h2.total.1
      obtain ⟨T, hTT⟩ : ∃ T, T = tot M := ⟨_, rfl⟩
      rw [← hTT] at hT ⊢
      have HT := Lib.hid hTT
      clear hd hTT
      by_cases hlt : k < l1.length
      · by_cases h30 : k < 30
        · obtain ⟨lb, off, ha1, hlb, hcell⟩ := H1.out.at (by intro e; rw [e] at hlt; simp at hlt)
          subst ha1
          have hz := ((Dk.out.old.cell (p := ⟨lb, off + k, none⟩) (by show lb < _; have := B1.out.size; omega)).trans (B1.out.cell (p := ⟨lb, off + k, none⟩) hlb)).trans (hcell k hlt)
          clear hcell
          generalize l1.getD k 0 = z at hz
          have ht1 : -700 < z.tmod 700 := Int.lt_tmod_of_pos z (by decide)
          have ht2 : z.tmod 700 < 700 := Int.tmod_lt_of_pos z (by decide)
          obtain ⟨t, ht⟩ : ∃ t, z.tmod 700 = t := ⟨_, rfl⟩
          rw [ht] at ht1 ht2
          obtain ⟨nn, hnn⟩ : ∃ nn : Nat, (t + 700) % 700 = (nn : Int) := ⟨((t + 700) % 700).toNat, by omega⟩
          have hn7 : nn < 700 := by omega
          have hmk := fun wx => make_bytes wx nn (by omega)
          have hmx : max 0 rm = (R : Int) := HR.out.symm
          have hd30 : decide ((k : Int) < 30) = true := by simp; omega
          obtain ⟨cc, hm⟩ : ∃ cc : Int, (k : Int) % 4 = cc := ⟨_, rfl⟩
          have hc4 : 0 ≤ cc ∧ cc < 4 := by omega
          obtain ⟨xx, hxx⟩ : ∃ xx : Int, xx = 97 + cc := ⟨_, rfl⟩
          have hx97 : 97 ≤ xx ∧ xx ≤ 100 := by omega
          obtain ⟨sg, hsg⟩ : ∃ sg : UInt8, (sg.toNat : Int) = xx := ⟨UInt8.ofNat xx.toNat, by rw [UInt8.toNat_ofNat']; omega⟩
          have HSG := Lib.hid hsg
          have HXX := Lib.hid hxx
          have hok : okName [sg] = true := by
            have h1 : 97 ≤ sg.toNat ∧ sg.toNat ≤ 122 := by omega
            simp [okName, okSign, UInt8.le_iff_toNat_le]
            omega
          have HOK := Lib.hid hok
          clear hsg hok hxx
          go_wp2_with fail
          by_cases hfit : R < T + nn
          · skip
            have hcm : decide ((nn : Int) ≤ (R : Int) - (T : Int)) = false := by simp; omega
            rw [hnn]
            have hmt : ((k : Int)).tmod 4 = cc := by rw [Int.tmod_eq_emod_of_nonneg (by omega)]; exact hm
            have hw1 : IntKind.i64.wrap (97 + cc) = xx := by have := HXX.out; rw [IntKind.wrap_i64]; omega
            have hw2 : IntKind.u8.wrap xx = xx := by rw [IntKind.wrap_u8]; omega
            have tB : Turn [] wr ((wr.alloc (.cells #[.int .u8 xx] 5)).alloc (.cells (madeCells #[.int .u8 0] nn) 5)).drew := ((Turn.alloc [] wr _).trans (Turn.alloc [] _ _) (by simp)).trans (Turn.drew [] _) (by simp)
            have tC : Turn [] wr ((wr.alloc (.cells (madeCells #[.int .u8 0] nn) 5)).alloc (.cells #[.int .u8 xx] 5)).drew := ((Turn.alloc [] wr _).trans (Turn.alloc [] _ _) (by simp)).trans (Turn.drew [] _) (by simp)
            have f1 := sign_text wr (wr.alloc (.cells #[.int .u8 xx] 5)).drew sg (x := xx) HSG.out (Turn.drew [] _)
            have f2 := sign_text wr ((wr.alloc (.cells #[.int .u8 xx] 5)).alloc (.cells (madeCells #[.int .u8 0] nn) 5)).drew sg (x := xx) HSG.out ((Turn.alloc [] _ _).trans (Turn.drew [] _) (by simp))
            have f3 := sign_text (wr.alloc (.cells (madeCells #[.int .u8 0] nn) 5)) ((wr.alloc (.cells (madeCells #[.int .u8 0] nn) 5)).alloc (.cells #[.int .u8 xx] 5)).drew sg (x := xx) HSG.out (Turn.drew [] _)
            rw [show (wr.alloc (.cells (madeCells #[.int .u8 0] nn) 5)).heap.size = wr.heap.size + 1 by simp] at f3
            have sB := (made_sl (wr.alloc (.cells #[.int .u8 xx] 5)) nn (by omega)).turn (Turn.drew [] _) (by simp)
            rw [show (wr.alloc (.cells #[.int .u8 xx] 5)).heap.size = wr.heap.size + 1 by simp] at sB
            have sC := (made_sl wr nn (by omega)).turn ((Turn.alloc [] _ (.cells #[.int .u8 xx] 5)).trans (Turn.drew [] _) (by simp)) (by simp)
            have C1 := Lib.hid ((room_calls Dk.out sg HOK.out nn (wr.heap.size + 1) tB sB (by omega)).1 (by rw [← HT.out]; exact hfit))
            have C2 := Lib.hid ((room_calls Dk.out sg HOK.out nn wr.heap.size tC sC (by omega)).1 (by rw [← HT.out]; exact hfit))
            clear tB tC sB sC
            go_region_with (first | (go_at_call 21; (first | ((with_reducible refine C1.out.mono ?_); rintro e wy ⟨rfl, hdy⟩) | ((with_reducible refine C2.out.mono ?_); rintro e wy ⟨rfl, hdy⟩)); have DY := Lib.hid hdy; clear hdy C1 C2))
            all_goals
              clear f1 f2 f3 hmk hmt hw1 hw2 hz
              go_wp2
              go_roundw
              case rel => exact ⟨k + 1, M, by omega, by go_num, by rw [← HT.out], DY.out⟩
              case measure => simp [intOf]; omega
          · skip
            have hcm : decide ((nn : Int) ≤ (R : Int) - (T : Int)) = true := by simp; omega
            rw [hnn]
            have hmt : ((k : Int)).tmod 4 = cc := by rw [Int.tmod_eq_emod_of_nonneg (by omega)]; exact hm
            have hw1 : IntKind.i64.wrap (97 + cc) = xx := by have := HXX.out; rw [IntKind.wrap_i64]; omega
            have hw2 : IntKind.u8.wrap xx = xx := by rw [IntKind.wrap_u8]; omega
            have tB : Turn [] wr ((wr.alloc (.cells #[.int .u8 xx] 5)).alloc (.cells (madeCells #[.int .u8 0] nn) 5)).drew := ((Turn.alloc [] wr _).trans (Turn.alloc [] _ _) (by simp)).trans (Turn.drew [] _) (by simp)
            have tC : Turn [] wr ((wr.alloc (.cells (madeCells #[.int .u8 0] nn) 5)).alloc (.cells #[.int .u8 xx] 5)).drew := ((Turn.alloc [] wr _).trans (Turn.alloc [] _ _) (by simp)).trans (Turn.drew [] _) (by simp)
            have f1 := sign_text wr (wr.alloc (.cells #[.int .u8 xx] 5)).drew sg (x := xx) HSG.out (Turn.drew [] _)
            have f2 := sign_text wr ((wr.alloc (.cells #[.int .u8 xx] 5)).alloc (.cells (madeCells #[.int .u8 0] nn) 5)).drew sg (x := xx) HSG.out ((Turn.alloc [] _ _).trans (Turn.drew [] _) (by simp))
            have f3 := sign_text (wr.alloc (.cells (madeCells #[.int .u8 0] nn) 5)) ((wr.alloc (.cells (madeCells #[.int .u8 0] nn) 5)).alloc (.cells #[.int .u8 xx] 5)).drew sg (x := xx) HSG.out (Turn.drew [] _)
            rw [show (wr.alloc (.cells (madeCells #[.int .u8 0] nn) 5)).heap.size = wr.heap.size + 1 by simp] at f3
            have sB := (made_sl (wr.alloc (.cells #[.int .u8 xx] 5)) nn (by omega)).turn (Turn.drew [] _) (by simp)
            rw [show (wr.alloc (.cells #[.int .u8 xx] 5)).heap.size = wr.heap.size + 1 by simp] at sB
            have sC := (made_sl wr nn (by omega)).turn ((Turn.alloc [] _ (.cells #[.int .u8 xx] 5)).trans (Turn.drew [] _) (by simp)) (by simp)
            have C1 := Lib.hid ((room_calls Dk.out sg HOK.out nn (wr.heap.size + 1) tB sB (by omega)).2 (by rw [← HT.out]; exact hfit))
            have C2 := Lib.hid ((room_calls Dk.out sg HOK.out nn wr.heap.size tC sC (by omega)).2 (by rw [← HT.out]; exact hfit))
            clear tB tC sB sC
            go_region_with (first | (go_at_call 21; (first | ((with_reducible refine C1.out.mono ?_); rintro e wy ⟨rfl, M2, hdy, hmt2⟩) | ((with_reducible refine C2.out.mono ?_); rintro e wy ⟨rfl, M2, hdy, hmt2⟩)); have DY := Lib.hid hdy; have HM2 := Lib.hid hmt2; clear hdy hmt2 C1 C2))
            all_goals
              clear f1 f2 f3 hmk hmt hw1 hw2 hz
              go_wp2
              go_roundw
              case rel => exact ⟨k + 1, M2, by omega, by go_num, by rw [HM2.out, ← HT.out]; go_num, DY.out⟩
              case measure => simp [intOf]; omega
        · have hd30 : decide ((k : Int) < 30) = false := by simp; omega
          go_wp2_with fail
          refine (dk_used Dk.out).mono ?_
          rintro e w' ⟨rfl, rfl⟩
          rw [← HT.out]
          go_wp2
          go_ret
          exact ⟨rfl, B1.out.trans (Dk.out.old.mono B1.out.size)⟩
      · go_wp2_with fail
        refine (dk_used Dk.out).mono ?_
        rintro e w' ⟨rfl, rfl⟩
        rw [← HT.out]
        go_wp2
        go_ret
        exact ⟨rfl, B1.out.trans (Dk.out.old.mono B1.out.size)⟩
  · have hdc : decide (5000 < a0) = true := by simpa using hc
    have hra : (5000 : Int) = rm := by rw [HRM.out]; omega
    have HRA := Lib.hid hra
    clear hra
    go_enter Try.func5, Try.ntmps5
    go_wp2_with fail
    refine (begun3_calls _).mono ?_
    rintro e x1 ⟨rfl, hb1⟩
    have B1 := Lib.hid hb1
    clear hb1
    go_wp2_with fail
    refine (dk_new 5000 _).mono ?_
    rintro e x2 ⟨rfl, hd⟩
    have hr5 : roomOf 5000 = R := by rw [HRA.out, HR2.out]
    rw [hr5] at hd
    clear hr5
    obtain ⟨b, hbb⟩ : ∃ b, b = x1.heap.size := ⟨_, rfl⟩
    rw [← hbb] at hd ⊢
    have D2 := Lib.hid hd
    clear hd hbb hdc
    go_wp2_with fail
    rw [HRA.out]
    clear hc
    go_loopw [7, 8] (fun u i wr => ∃ (k : Nat) (M : List Fm), k ≤ l1.length ∧ i = .int .i64 k ∧ u = .int .i64 (tot M : Nat) ∧ Dk x1 wr b R M) (fun _ i _ => l1.length - (intOf i).toNat)
    case atStart => exact ⟨0, [], by omega, rfl, rfl, D2.out⟩
    case round =>
      obtain ⟨k, M, hk, rfl, rfl, hd⟩ := hrel
      have Dk := Lib.hid hd
      have hT : tot M ≤ R := by obtain ⟨_, l, h2, _⟩ := hd; exact h2.total.1
      obtain ⟨T, hTT⟩ : ∃ T, T = tot M := ⟨_, rfl⟩
      rw [← hTT] at hT ⊢
      have HT := Lib.hid hTT
      clear hd hTT
      by_cases hlt : k < l1.length
      · by_cases h30 : k < 30
        · obtain ⟨lb, off, ha1, hlb, hcell⟩ := H1.out.at (by intro e; rw [e] at hlt; simp at hlt)
          subst ha1
          have hz := ((Dk.out.old.cell (p := ⟨lb, off + k, none⟩) (by show lb < _; have := B1.out.size; omega)).trans (B1.out.cell (p := ⟨lb, off + k, none⟩) hlb)).trans (hcell k hlt)
          clear hcell
          generalize l1.getD k 0 = z at hz
          have ht1 : -700 < z.tmod 700 := Int.lt_tmod_of_pos z (by decide)
          have ht2 : z.tmod 700 < 700 := Int.tmod_lt_of_pos z (by decide)
          obtain ⟨t, ht⟩ : ∃ t, z.tmod 700 = t := ⟨_, rfl⟩
          rw [ht] at ht1 ht2
          obtain ⟨nn, hnn⟩ : ∃ nn : Nat, (t + 700) % 700 = (nn : Int) := ⟨((t + 700) % 700).toNat, by omega⟩
          have hn7 : nn < 700 := by omega
          have hmk := fun wx => make_bytes wx nn (by omega)
          have hmx : max 0 rm = (R : Int) := HR.out.symm
          have hd30 : decide ((k : Int) < 30) = true := by simp; omega
          obtain ⟨cc, hm⟩ : ∃ cc : Int, (k : Int) % 4 = cc := ⟨_, rfl⟩
          have hc4 : 0 ≤ cc ∧ cc < 4 := by omega
          obtain ⟨xx, hxx⟩ : ∃ xx : Int, xx = 97 + cc := ⟨_, rfl⟩
          have hx97 : 97 ≤ xx ∧ xx ≤ 100 := by omega
          obtain ⟨sg, hsg⟩ : ∃ sg : UInt8, (sg.toNat : Int) = xx := ⟨UInt8.ofNat xx.toNat, by rw [UInt8.toNat_ofNat']; omega⟩
          have HSG := Lib.hid hsg
          have HXX := Lib.hid hxx
          have hok : okName [sg] = true := by
            have h1 : 97 ≤ sg.toNat ∧ sg.toNat ≤ 122 := by omega
            simp [okName, okSign, UInt8.le_iff_toNat_le]
            omega
          have HOK := Lib.hid hok
          clear hsg hok hxx
          go_wp2_with fail
          by_cases hfit : R < T + nn
          · skip
            have hcm : decide ((nn : Int) ≤ (R : Int) - (T : Int)) = false := by simp; omega
            rw [hnn]
            have hmt : ((k : Int)).tmod 4 = cc := by rw [Int.tmod_eq_emod_of_nonneg (by omega)]; exact hm
            have hw1 : IntKind.i64.wrap (97 + cc) = xx := by have := HXX.out; rw [IntKind.wrap_i64]; omega
            have hw2 : IntKind.u8.wrap xx = xx := by rw [IntKind.wrap_u8]; omega
            have tB : Turn [] wr ((wr.alloc (.cells #[.int .u8 xx] 5)).alloc (.cells (madeCells #[.int .u8 0] nn) 5)).drew := ((Turn.alloc [] wr _).trans (Turn.alloc [] _ _) (by simp)).trans (Turn.drew [] _) (by simp)
            have tC : Turn [] wr ((wr.alloc (.cells (madeCells #[.int .u8 0] nn) 5)).alloc (.cells #[.int .u8 xx] 5)).drew := ((Turn.alloc [] wr _).trans (Turn.alloc [] _ _) (by simp)).trans (Turn.drew [] _) (by simp)
            have f1 := sign_text wr (wr.alloc (.cells #[.int .u8 xx] 5)).drew sg (x := xx) HSG.out (Turn.drew [] _)
            have f2 := sign_text wr ((wr.alloc (.cells #[.int .u8 xx] 5)).alloc (.cells (madeCells #[.int .u8 0] nn) 5)).drew sg (x := xx) HSG.out ((Turn.alloc [] _ _).trans (Turn.drew [] _) (by simp))
            have f3 := sign_text (wr.alloc (.cells (madeCells #[.int .u8 0] nn) 5)) ((wr.alloc (.cells (madeCells #[.int .u8 0] nn) 5)).alloc (.cells #[.int .u8 xx] 5)).drew sg (x := xx) HSG.out (Turn.drew [] _)
            rw [show (wr.alloc (.cells (madeCells #[.int .u8 0] nn) 5)).heap.size = wr.heap.size + 1 by simp] at f3
            have sB := (made_sl (wr.alloc (.cells #[.int .u8 xx] 5)) nn (by omega)).turn (Turn.drew [] _) (by simp)
            rw [show (wr.alloc (.cells #[.int .u8 xx] 5)).heap.size = wr.heap.size + 1 by simp] at sB
            have sC := (made_sl wr nn (by omega)).turn ((Turn.alloc [] _ (.cells #[.int .u8 xx] 5)).trans (Turn.drew [] _) (by simp)) (by simp)
            have C1 := Lib.hid ((room_calls Dk.out sg HOK.out nn (wr.heap.size + 1) tB sB (by omega)).1 (by rw [← HT.out]; exact hfit))
            have C2 := Lib.hid ((room_calls Dk.out sg HOK.out nn wr.heap.size tC sC (by omega)).1 (by rw [← HT.out]; exact hfit))
            clear tB tC sB sC
            go_region_with (first | (go_at_call 21; (first | ((with_reducible refine C1.out.mono ?_); rintro e wy ⟨rfl, hdy⟩) | ((with_reducible refine C2.out.mono ?_); rintro e wy ⟨rfl, hdy⟩)); have DY := Lib.hid hdy; clear hdy C1 C2))
            all_goals
              clear f1 f2 f3 hmk hmt hw1 hw2 hz
              go_wp2
              go_roundw
              case rel => exact ⟨k + 1, M, by omega, by go_num, by rw [← HT.out], DY.out⟩
              case measure => simp [intOf]; omega
          · skip
            have hcm : decide ((nn : Int) ≤ (R : Int) - (T : Int)) = true := by simp; omega
            rw [hnn]
            have hmt : ((k : Int)).tmod 4 = cc := by rw [Int.tmod_eq_emod_of_nonneg (by omega)]; exact hm
            have hw1 : IntKind.i64.wrap (97 + cc) = xx := by have := HXX.out; rw [IntKind.wrap_i64]; omega
            have hw2 : IntKind.u8.wrap xx = xx := by rw [IntKind.wrap_u8]; omega
            have tB : Turn [] wr ((wr.alloc (.cells #[.int .u8 xx] 5)).alloc (.cells (madeCells #[.int .u8 0] nn) 5)).drew := ((Turn.alloc [] wr _).trans (Turn.alloc [] _ _) (by simp)).trans (Turn.drew [] _) (by simp)
            have tC : Turn [] wr ((wr.alloc (.cells (madeCells #[.int .u8 0] nn) 5)).alloc (.cells #[.int .u8 xx] 5)).drew := ((Turn.alloc [] wr _).trans (Turn.alloc [] _ _) (by simp)).trans (Turn.drew [] _) (by simp)
            have f1 := sign_text wr (wr.alloc (.cells #[.int .u8 xx] 5)).drew sg (x := xx) HSG.out (Turn.drew [] _)
            have f2 := sign_text wr ((wr.alloc (.cells #[.int .u8 xx] 5)).alloc (.cells (madeCells #[.int .u8 0] nn) 5)).drew sg (x := xx) HSG.out ((Turn.alloc [] _ _).trans (Turn.drew [] _) (by simp))
            have f3 := sign_text (wr.alloc (.cells (madeCells #[.int .u8 0] nn) 5)) ((wr.alloc (.cells (madeCells #[.int .u8 0] nn) 5)).alloc (.cells #[.int .u8 xx] 5)).drew sg (x := xx) HSG.out (Turn.drew [] _)
            rw [show (wr.alloc (.cells (madeCells #[.int .u8 0] nn) 5)).heap.size = wr.heap.size + 1 by simp] at f3
            have sB := (made_sl (wr.alloc (.cells #[.int .u8 xx] 5)) nn (by omega)).turn (Turn.drew [] _) (by simp)
            rw [show (wr.alloc (.cells #[.int .u8 xx] 5)).heap.size = wr.heap.size + 1 by simp] at sB
            have sC := (made_sl wr nn (by omega)).turn ((Turn.alloc [] _ (.cells #[.int .u8 xx] 5)).trans (Turn.drew [] _) (by simp)) (by simp)
            have C1 := Lib.hid ((room_calls Dk.out sg HOK.out nn (wr.heap.size + 1) tB sB (by omega)).2 (by rw [← HT.out]; exact hfit))
            have C2 := Lib.hid ((room_calls Dk.out sg HOK.out nn wr.heap.size tC sC (by omega)).2 (by rw [← HT.out]; exact hfit))
            clear tB tC sB sC
            go_region_with (first | (go_at_call 21; (first | ((with_reducible refine C1.out.mono ?_); rintro e wy ⟨rfl, M2, hdy, hmt2⟩) | ((with_reducible refine C2.out.mono ?_); rintro e wy ⟨rfl, M2, hdy, hmt2⟩)); have DY := Lib.hid hdy; have HM2 := Lib.hid hmt2; clear hdy hmt2 C1 C2))
            all_goals
              clear f1 f2 f3 hmk hmt hw1 hw2 hz
              go_wp2
              go_roundw
              case rel => exact ⟨k + 1, M2, by omega, by go_num, by rw [HM2.out, ← HT.out]; go_num, DY.out⟩
              case measure => simp [intOf]; omega
        · have hd30 : decide ((k : Int) < 30) = false := by simp; omega
          go_wp2_with fail
          refine (dk_used Dk.out).mono ?_
          rintro e w' ⟨rfl, rfl⟩
          rw [← HT.out]
          go_wp2
          go_ret
          exact ⟨rfl, B1.out.trans (Dk.out.old.mono B1.out.size)⟩
      · go_wp2_with fail
        refine (dk_used Dk.out).mono ?_
        rintro e w' ⟨rfl, rfl⟩
        rw [← HT.out]
        go_wp2
        go_ret
        exact ⟨rfl, B1.out.trans (Dk.out.old.mono B1.out.size)⟩

end Go.Proofs.Ytlcilbbgfilefaa
