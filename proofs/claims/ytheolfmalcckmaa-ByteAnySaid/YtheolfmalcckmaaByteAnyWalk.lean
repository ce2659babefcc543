/-
  The walk of the law ByteAny.
-/
import Derived.Test.YtheolfmalcckmaaRefLong
import Derived.Test.YtheolfmalcckmaaByteAllWalk
namespace Go.Proofs.Ytheolfmalcckmaa
open Go.RowKit Go.ChangeShapes Go.WideShapes Go.ChangeAt Go.Deep

theorem owns_form {w : World} {B n : Nat} {v : Value} {l : List UInt8} (h : w.ownsRow B 5 1 v n (u8s l)) : ∃ ao c, v = .slice ao l.length c ∧ Sl w ao c l ∧ (∀ A, ao = some A → ∃ g, A = ⟨g, 0, none⟩ ∧ g < w.heap.size) := by
  obtain ⟨ao, c, hv, hs, _⟩ := Sl.of_owns h
  refine ⟨ao, c, hv, hs, fun A hA => ?_⟩
  subst hA
  rcases h.2 with ⟨h1, _⟩ | ⟨g, cap, cur, h1, _, hg, _⟩
  · rw [hv] at h1
    cases h1
  · rw [hv] at h1
    injection h1 with e1
    injection e1 with e2
    exact ⟨g, e2, (Array.getElem?_eq_some_iff.1 hg).1⟩

set_option maxHeartbeats 1000000 in
theorem short_form (ao : Option Addr) (c n : Nat) (l : List UInt8) (w : World) (h : Sl w ao c l) (hn : n ≤ 1000) :
    Calls Try.prog 28 #[.slice ao l.length c, .int .i64 (n : Int)] w fun e w' =>
      ∃ ao' c' x, e = .returned (.slice ao' (List.length x) c') ∧ x.length ≤ n ∧ Sl w' ao' c' x ∧ (∀ A, ao' = some A → ∃ g, A = ⟨g, 0, none⟩ ∧ g < w'.heap.size) ∧ Below w.heap.size w w' := by
  have hle := h.le
  unfold maxLen at hle
  by_cases hln : l.length ≤ n
  · have hlt : ((l.length : Nat) : Int) ≤ (n : Int) := by omega
    have hc' : ((l.length : Nat) : Int) ≤ (c : Int) := by omega
    have H := Lib.hid h
    clear h
    go_enter Try.func28, Try.ntmps28
    go_wp2_with (at_builtin; refine append_bytes rfl (.const (.slice none 0 0)) (.tmp 10) rfl w.heap.size (.slice none 0 0) [] rfl (World.ownsRow_nil _ _ _ _) ao c l rfl H.out (by simp; omega) (Nat.le_refl _) ?_)
    intro v' w1 hown hg _
    have HB := Lib.hid ((Below.refl _ _).grown hg (Nat.le_refl _) (by intro k hk; cases hk))
    have HO := Lib.hid (owns_form hown)
    clear hown hg
    go_wp2
    go_ret
    obtain ⟨ao', c', hv, hs, hf⟩ := HO.out
    exact ⟨ao', c', l, by rw [← hv]; rfl, hln, hs, hf, HB.out⟩
  · have hlt : (n : Int) < ((l.length : Nat) : Int) := by omega
    have hc' : (n : Int) ≤ (c : Int) := by omega
    have hlen : (l.take n).length = n := by simp; omega
    have H := Lib.hid (Sl.take h n)
    clear h
    generalize l.take n = l' at *
    subst hlen
    go_enter Try.func28, Try.ntmps28
    go_wp2_with (at_builtin; refine append_bytes rfl (.const (.slice none 0 0)) (.tmp 10) rfl w.heap.size (.slice none 0 0) [] rfl (World.ownsRow_nil _ _ _ _) ao c l' rfl H.out (by simp; omega) (Nat.le_refl _) ?_)
    intro v' w1 hown hg _
    have HB := Lib.hid ((Below.refl _ _).grown hg (Nat.le_refl _) (by intro k hk; cases hk))
    have HO := Lib.hid (owns_form hown)
    clear hown hg
    go_wp2
    go_ret
    obtain ⟨ao', c', hv, hs, hf⟩ := HO.out
    exact ⟨ao', c', l', by rw [← hv]; rfl, Nat.le_refl _, hs, hf, HB.out⟩

theorem RIn.new {q : Nat} {w : World} {T : TypeId} {ax : Option Addr} {cx : Nat} {x : List UInt8} (hs : Sl w ax cx x) (hf : ∀ A, ax = some A → ∃ g, A = ⟨g, 0, none⟩ ∧ g < q) (hq : q ≤ w.heap.size) (hx : x.length ≤ 1000) :
    RIn q (w.alloc (.cells #[.slice ax x.length cx, .bool false] T)) w.heap.size x false := by
  refine ⟨ax, cx, x, by rw [World.cell?_alloc_at (hn := rfl)]; rfl, by rw [World.cell?_alloc_at (hn := rfl)]; rfl, by rw [World.frozen?_alloc_at (hn := rfl)], by rw [World.frozen?_alloc_at (hn := rfl)], hs.belowAll (new_below _ _), fun h => ?_, hx, rfl, fun A hA => ?_, hq⟩
  · rcases hs with ⟨_, _, h'⟩ | ⟨A, hA, _⟩
    · exact absurd h' h
    · obtain ⟨g, e, h1⟩ := hf A hA
      exact ⟨g, 0, by rw [hA, e], h1⟩
  · obtain ⟨g, e, _⟩ := hf A hA
    exact ⟨g, 0, e⟩

theorem InIs.beside {w w' : World} {b r : Nat} {l : List UInt8} {bad : Bool} (h : InIs w b l bad) (hg : w.grownBy w' (some r)) (hr : b ≠ r) : InIs w' b l bad :=
  h.same (hg.block b h.lt (by intro e; cases e; exact hr rfl))

set_option maxHeartbeats 6000000 in
set_option maxRecDepth 100000 in
theorem byteAny_walk (a0 : Option Addr) (c0 : Nat) (l0 : List UInt8) (w : World) (h0 : Sl w a0 c0 l0) (a1 : Option Addr) (c1 : Nat) (l1 : List Int) (h1 : Il w a1 c1 l1) :
    Calls Try.prog 4 #[.slice a0 l0.length c0, .slice a1 l1.length c1] w fun e w' => e = .returned (.bool true) ∧ Below w.heap.size w w' := by
  have H0 := Lib.hid h0
  have H1 := Lib.hid h1
  have hl1 : (l1.length : Int) ≤ 9223372036854775807 := by
    rcases h1 with ⟨_, _, rfl⟩ | ⟨A, _, q1, q2, _⟩
    · simp
    · unfold maxLen at q2; omega
  clear h0 h1
  go_enter Try.func4, Try.ntmps4
  go_wp2_with fail
  refine (begun_calls _).mono ?_
  rintro e w1 ⟨rfl, hb1⟩
  have B1 := Lib.hid hb1
  have hsz := hb1.size
  clear hb1
  go_wp2_with fail
  refine (short_form a0 c0 80 l0 _ (H0.out.belowAll B1.out) (by omega)).mono ?_
  rintro e w2 ⟨ax, cx, x, rfl, hx80, hs2, hf2, hb2⟩
  have B2 := Lib.hid (B1.out.trans (hb2.mono hsz))
  have SX := Lib.hid hs2
  have HF := Lib.hid hf2
  clear hb2 hs2 hf2 B1 hsz
  go_wp2_with fail
  refine (read_calls ax cx x _ SX.out).mono ?_
  rintro e w3 ⟨rfl, hi3, hb3⟩
  have I3 := Lib.hid hi3
  have B3 := Lib.hid (B2.out.trans (hb3.mono B2.out.size))
  have S3 := Lib.hid (SX.out.belowAll hb3)
  have hqi := hi3.lt
  clear hi3 hb3 SX
  generalize hq : w2.heap.size = q at *
  go_wp2_with fail
  have I4 := Lib.hid (I3.out.new (.cells #[.slice ax x.length cx, .bool false] 45))
  have R4 := Lib.hid (RIn.new (q := q) (T := 45) S3.out HF.out (Nat.le_of_lt hqi) (by omega))
  have B4 := Lib.hid (B3.out.alloc B3.out.size (.cells #[.slice ax x.length cx, .bool false] 45))
  clear S3 I3 HF hx80
  generalize hrb : w3.heap.size = rb at *
  have HRB := Lib.hid hrb
  have hwq : w.heap.size ≤ q := by have := B2.out.size; omega
  clear hrb hq
  go_loopw [8] (fun i wr => ∃ (k : Nat) (l : List UInt8) (bad : Bool), k ≤ l1.length ∧ k ≤ 30 ∧ i = .int .i64 k ∧ InIs wr q l bad ∧ RIn q wr rb l bad ∧ Below w.heap.size w wr) (fun i _ => 30 - (intOf i).toNat)
  case atStart => exact ⟨0, x, false, by omega, by omega, rfl, I4.out, R4.out, B4.out⟩
  case round =>
    obtain ⟨k, l, bad, hk1, hk2, rfl, hik, hrk, hbk⟩ := hrel
    have IK := Lib.hid hik
    have RK := Lib.hid hrk
    have BK := Lib.hid hbk
    have hqr : q < wr.heap.size := hik.lt
    have hrr : rb < wr.heap.size := hrk.lt
    clear hik hrk hbk I4 R4 B4
    by_cases hlt : k < l1.length ∧ k < 30
    · obtain ⟨hlt1, hlt2⟩ := hlt
      have r1 : (k : Int) < (l1.length : Int) := by omega
      have r2 : (k : Int) < 30 := by omega
      obtain ⟨b, off, ha, hb, hc⟩ := H1.out.at (by intro e; rw [e] at hlt1; simp at hlt1)
      subst ha
      have hcell := (BK.out.cell (p := ⟨b, off + k, none⟩) hb).trans (hc k hlt1)
      clear hc
      generalize l1.getD k 0 = cv at *
      rcases (show cv % 4 = 0 ∨ cv % 4 = 1 ∨ cv % 4 = 2 ∨ cv % 4 = 3 by omega) with h4 | h4 | h4 | h4
      · have m1 : bits .and .i64 cv 3 = 0 := by rw [i64_and3]; exact h4
        have CI := Lib.hid (small_in q l bad wr IK.out)
        have CR := Lib.hid (fun wx (h : RIn q wx rb l bad) => rsmall_calls rb l bad wx h)
        generalize leN (taken l bad 2) = V at *
        generalize after l bad 2 = A at *
        generalize (!canTake l bad 2) = bd at *
        clear h4
        go_wp2_with fail
        refine CI.out.mono ?_
        rintro e w5 ⟨rfl, hi5, hg5⟩
        have I5 := Lib.hid hi5
        have R5 := Lib.hid (RK.out.far hg5 (Nat.le_refl q) (by omega))
        have B5 := Lib.hid (BK.out.grown hg5 (by omega) (by intro j hj; cases hj; exact hwq))
        clear hi5 hg5 CI
        go_wp2_with fail
        refine (CR.out _ R5.out).mono ?_
        rintro e w6 ⟨rfl, hr6, hg6⟩
        have R6 := Lib.hid hr6
        have I6 := Lib.hid (I5.out.beside hg6 (by omega))
        have B6 := Lib.hid (B5.out.grown hg6 B5.out.size (by intro j hj; cases hj; omega))
        clear hr6 hg6 CR
        go_wp2_with fail
        obtain ⟨hb1, hf1⟩ := RIn.bad1 R6.out
        have Q1 := Lib.hid (fun nq => bad_calls q A bd (w6.drewN nq) I6.out)
        have Q2 := Lib.hid (fun nq => left_calls q A bd (w6.drewN nq) I6.out)
        have Q3 := Lib.hid (fun nq => rleft_calls rb A bd (w6.drewN nq) R6.out)
        have Q4 := Lib.hid (fun nq => end_calls q A bd (w6.drewN nq) I6.out)
        have Q5 := Lib.hid (fun nq => rend_calls rb A bd (w6.drewN nq) R6.out)
        generalize (!bd && decide (A = [])) = E at Q4 Q5
        have kb : ∀ nq : Nat, (w6.drewN nq).cell? ⟨rb, 1, none⟩ = some (.bool bd) := fun _ => hb1
        clear hb1 hf1 hcell
        go_quiet ((first | (go_at_call 26; exact Calls.quiet_of_same ((Q1.out _).mono fun _ _ h => ⟨h.1, h.2.symm⟩)) | (go_at_call 27; exact Calls.quiet_of_same ((Q2.out _).mono fun _ _ h => ⟨h.1, h.2.symm⟩)) | (go_at_call 37; exact Calls.quiet_of_same ((Q3.out _).mono fun _ _ h => ⟨h.1, h.2.symm⟩)) | (go_at_call 25; exact Calls.quiet_of_same ((Q4.out _).mono fun _ _ h => ⟨h.1, h.2.symm⟩)) | (go_at_call 38; exact Calls.quiet_of_same ((Q5.out _).mono fun _ _ h => ⟨h.1, h.2.symm⟩))))
        have I7 : Hid (InIs (w6.drewN nq) q A bd) := I6
        have R7 : Hid (RIn q (w6.drewN nq) rb A bd) := R6
        have B7 : Hid (Below w.heap.size w (w6.drewN nq)) := Lib.hid ⟨B6.out.os, B6.out.tape, B6.out.output, B6.out.size, B6.out.block⟩
        clear Q1 Q2 Q3 Q4 Q5 kb I6 R6 B6
        generalize w6.drewN nq = w7 at *
        go_wp2_with fail
        go_roundw
        case rel => exact ⟨k + 1, A, bd, by omega, by omega, by go_num, I7.out, R7.out, B7.out⟩
        case measure => simp [intOf]; omega
      · have m1 : bits .and .i64 cv 3 = 1 := by rw [i64_and3]; exact h4
        have CI := Lib.hid (long_in q l bad wr IK.out)
        have CR := Lib.hid (fun wx (h : RIn q wx rb l bad) => rlong_calls rb l bad wx h)
        generalize longN (taken l bad 8) = V at *
        generalize after l bad 8 = A at *
        generalize (!canTake l bad 8) = bd at *
        clear h4
        go_wp2_with fail
        refine CI.out.mono ?_
        rintro e w5 ⟨rfl, hi5, hg5⟩
        have I5 := Lib.hid hi5
        have R5 := Lib.hid (RK.out.far hg5 (Nat.le_refl q) (by omega))
        have B5 := Lib.hid (BK.out.grown hg5 (by omega) (by intro j hj; cases hj; exact hwq))
        clear hi5 hg5 CI
        go_wp2_with fail
        refine (CR.out _ R5.out).mono ?_
        rintro e w6 ⟨rfl, hr6, hg6⟩
        have R6 := Lib.hid hr6
        have I6 := Lib.hid (I5.out.beside hg6 (by omega))
        have B6 := Lib.hid (B5.out.grown hg6 B5.out.size (by intro j hj; cases hj; omega))
        clear hr6 hg6 CR
        go_wp2_with fail
        obtain ⟨hb1, hf1⟩ := RIn.bad1 R6.out
        have Q1 := Lib.hid (fun nq => bad_calls q A bd (w6.drewN nq) I6.out)
        have Q2 := Lib.hid (fun nq => left_calls q A bd (w6.drewN nq) I6.out)
        have Q3 := Lib.hid (fun nq => rleft_calls rb A bd (w6.drewN nq) R6.out)
        have Q4 := Lib.hid (fun nq => end_calls q A bd (w6.drewN nq) I6.out)
        have Q5 := Lib.hid (fun nq => rend_calls rb A bd (w6.drewN nq) R6.out)
        generalize (!bd && decide (A = [])) = E at Q4 Q5
        have kb : ∀ nq : Nat, (w6.drewN nq).cell? ⟨rb, 1, none⟩ = some (.bool bd) := fun _ => hb1
        clear hb1 hf1 hcell
        go_quiet ((first | (go_at_call 26; exact Calls.quiet_of_same ((Q1.out _).mono fun _ _ h => ⟨h.1, h.2.symm⟩)) | (go_at_call 27; exact Calls.quiet_of_same ((Q2.out _).mono fun _ _ h => ⟨h.1, h.2.symm⟩)) | (go_at_call 37; exact Calls.quiet_of_same ((Q3.out _).mono fun _ _ h => ⟨h.1, h.2.symm⟩)) | (go_at_call 25; exact Calls.quiet_of_same ((Q4.out _).mono fun _ _ h => ⟨h.1, h.2.symm⟩)) | (go_at_call 38; exact Calls.quiet_of_same ((Q5.out _).mono fun _ _ h => ⟨h.1, h.2.symm⟩))))
        have I7 : Hid (InIs (w6.drewN nq) q A bd) := I6
        have R7 : Hid (RIn q (w6.drewN nq) rb A bd) := R6
        have B7 : Hid (Below w.heap.size w (w6.drewN nq)) := Lib.hid ⟨B6.out.os, B6.out.tape, B6.out.output, B6.out.size, B6.out.block⟩
        clear Q1 Q2 Q3 Q4 Q5 kb I6 R6 B6
        generalize w6.drewN nq = w7 at *
        go_wp2_with fail
        go_roundw
        case rel => exact ⟨k + 1, A, bd, by omega, by omega, by go_num, I7.out, R7.out, B7.out⟩
        case measure => simp [intOf]; omega
      · have m1 : bits .and .i64 cv 3 = 2 := by rw [i64_and3]; exact h4
        have CI := Lib.hid (text_in q l bad wr IK.out)
        have CR := Lib.hid (fun wx (h : RIn q wx rb l bad) => rtext_calls rb l bad wx h)
        generalize (⟨(textT l bad).toArray⟩ : ByteArray) = V at *
        generalize textA l bad = A at *
        generalize (!textC l bad) = bd at *
        clear h4
        go_wp2_with fail
        refine CI.out.mono ?_
        rintro e w5 ⟨rfl, hi5, hg5⟩
        have I5 := Lib.hid hi5
        have R5 := Lib.hid (RK.out.far hg5 (Nat.le_refl q) (by omega))
        have B5 := Lib.hid (BK.out.grown hg5 (by omega) (by intro j hj; cases hj; exact hwq))
        clear hi5 hg5 CI
        go_wp2_with fail
        refine (CR.out _ R5.out).mono ?_
        rintro e w6 ⟨rfl, hr6, hg6⟩
        have R6 := Lib.hid hr6
        have I6 := Lib.hid (I5.out.beside hg6 (by omega))
        have B6 := Lib.hid (B5.out.grown hg6 B5.out.size (by intro j hj; cases hj; omega))
        clear hr6 hg6 CR
        go_wp2_with fail
        obtain ⟨hb1, hf1⟩ := RIn.bad1 R6.out
        have Q1 := Lib.hid (fun nq => bad_calls q A bd (w6.drewN nq) I6.out)
        have Q2 := Lib.hid (fun nq => left_calls q A bd (w6.drewN nq) I6.out)
        have Q3 := Lib.hid (fun nq => rleft_calls rb A bd (w6.drewN nq) R6.out)
        have Q4 := Lib.hid (fun nq => end_calls q A bd (w6.drewN nq) I6.out)
        have Q5 := Lib.hid (fun nq => rend_calls rb A bd (w6.drewN nq) R6.out)
        generalize (!bd && decide (A = [])) = E at Q4 Q5
        have kb : ∀ nq : Nat, (w6.drewN nq).cell? ⟨rb, 1, none⟩ = some (.bool bd) := fun _ => hb1
        clear hb1 hf1 hcell
        go_quiet ((first | (go_at_call 26; exact Calls.quiet_of_same ((Q1.out _).mono fun _ _ h => ⟨h.1, h.2.symm⟩)) | (go_at_call 27; exact Calls.quiet_of_same ((Q2.out _).mono fun _ _ h => ⟨h.1, h.2.symm⟩)) | (go_at_call 37; exact Calls.quiet_of_same ((Q3.out _).mono fun _ _ h => ⟨h.1, h.2.symm⟩)) | (go_at_call 25; exact Calls.quiet_of_same ((Q4.out _).mono fun _ _ h => ⟨h.1, h.2.symm⟩)) | (go_at_call 38; exact Calls.quiet_of_same ((Q5.out _).mono fun _ _ h => ⟨h.1, h.2.symm⟩))))
        have I7 : Hid (InIs (w6.drewN nq) q A bd) := I6
        have R7 : Hid (RIn q (w6.drewN nq) rb A bd) := R6
        have B7 : Hid (Below w.heap.size w (w6.drewN nq)) := Lib.hid ⟨B6.out.os, B6.out.tape, B6.out.output, B6.out.size, B6.out.block⟩
        clear Q1 Q2 Q3 Q4 Q5 kb I6 R6 B6
        generalize w6.drewN nq = w7 at *
        go_wp2_with fail
        go_roundw
        case rel => exact ⟨k + 1, A, bd, by omega, by omega, by go_num, I7.out, R7.out, B7.out⟩
        case measure => simp [intOf]; omega
      · have m1 : bits .and .i64 cv 3 = 3 := by rw [i64_and3]; exact h4
        have CI := Lib.hid (truth_in q l bad wr IK.out)
        have CR := Lib.hid (fun wx (h : RIn q wx rb l bad) => rtruth_calls rb l bad wx h)
        generalize truthV l bad = V at *
        generalize truthA l bad = A at *
        generalize (!truthC l bad) = bd at *
        clear h4
        go_wp2_with fail
        refine CI.out.mono ?_
        rintro e w5 ⟨rfl, hi5, hg5⟩
        have I5 := Lib.hid hi5
        have R5 := Lib.hid (RK.out.far hg5 (Nat.le_refl q) (by omega))
        have B5 := Lib.hid (BK.out.grown hg5 (by omega) (by intro j hj; cases hj; exact hwq))
        clear hi5 hg5 CI
        go_wp2_with fail
        refine (CR.out _ R5.out).mono ?_
        rintro e w6 ⟨rfl, hr6, hg6⟩
        have R6 := Lib.hid hr6
        have I6 := Lib.hid (I5.out.beside hg6 (by omega))
        have B6 := Lib.hid (B5.out.grown hg6 B5.out.size (by intro j hj; cases hj; omega))
        clear hr6 hg6 CR
        go_wp2_with fail
        obtain ⟨hb1, hf1⟩ := RIn.bad1 R6.out
        have Q1 := Lib.hid (fun nq => bad_calls q A bd (w6.drewN nq) I6.out)
        have Q2 := Lib.hid (fun nq => left_calls q A bd (w6.drewN nq) I6.out)
        have Q3 := Lib.hid (fun nq => rleft_calls rb A bd (w6.drewN nq) R6.out)
        have Q4 := Lib.hid (fun nq => end_calls q A bd (w6.drewN nq) I6.out)
        have Q5 := Lib.hid (fun nq => rend_calls rb A bd (w6.drewN nq) R6.out)
        generalize (!bd && decide (A = [])) = E at Q4 Q5
        have kb : ∀ nq : Nat, (w6.drewN nq).cell? ⟨rb, 1, none⟩ = some (.bool bd) := fun _ => hb1
        clear hb1 hf1 hcell
        go_quiet ((first | (go_at_call 26; exact Calls.quiet_of_same ((Q1.out _).mono fun _ _ h => ⟨h.1, h.2.symm⟩)) | (go_at_call 27; exact Calls.quiet_of_same ((Q2.out _).mono fun _ _ h => ⟨h.1, h.2.symm⟩)) | (go_at_call 37; exact Calls.quiet_of_same ((Q3.out _).mono fun _ _ h => ⟨h.1, h.2.symm⟩)) | (go_at_call 25; exact Calls.quiet_of_same ((Q4.out _).mono fun _ _ h => ⟨h.1, h.2.symm⟩)) | (go_at_call 38; exact Calls.quiet_of_same ((Q5.out _).mono fun _ _ h => ⟨h.1, h.2.symm⟩))))
        have I7 : Hid (InIs (w6.drewN nq) q A bd) := I6
        have R7 : Hid (RIn q (w6.drewN nq) rb A bd) := R6
        have B7 : Hid (Below w.heap.size w (w6.drewN nq)) := Lib.hid ⟨B6.out.os, B6.out.tape, B6.out.output, B6.out.size, B6.out.block⟩
        clear Q1 Q2 Q3 Q4 Q5 kb I6 R6 B6
        generalize w6.drewN nq = w7 at *
        go_wp2_with fail
        go_roundw
        case rel => exact ⟨k + 1, A, bd, by omega, by omega, by go_num, I7.out, R7.out, B7.out⟩
        case measure => simp [intOf]; omega
    · rcases (show (l1.length : Int) ≤ (k : Int) ∨ ((k : Int) < l1.length ∧ 30 ≤ (k : Int)) by omega) with r1 | ⟨r1, r2⟩
      all_goals
        go_wp2
        go_ret
        exact ⟨rfl, BK.out⟩

end Go.Proofs.Ytheolfmalcckmaa
