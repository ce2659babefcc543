/-
  The walk of the law FileAll.
-/
import Derived.Test.YtlcilbbgfilefaaDo
namespace Go.Proofs.Ytlcilbbgfilefaa
open Go.RowKit

theorem Ol3.at {w : World} {ao : Option Addr} {c : Nat} {l : List Op3} (h : Ol3 w ao c l) (hl : l ≠ []) : ∃ b off, ao = some ⟨b, off, none⟩ ∧ b < w.heap.size ∧ ∀ i, i < l.length → Op3At w ⟨b, off + i * 5, none⟩ (l.getD i opNo) := by
  rcases h with ⟨_, _, h⟩ | ⟨A, rfl, _, _, hc⟩
  · exact absurd h hl
  · obtain ⟨b, off, spot⟩ := A
    have h0 := (hc 0 (List.length_pos_iff.2 hl)).2.2.1
    have hs : spot = none := by simpa [Addr.add] using World.cell?_spot h0
    subst hs
    have hc' : ∀ i, i < l.length → Op3At w ⟨b, off + i * 5, none⟩ (l.getD i opNo) := fun i hi => by
      have := hc i hi
      rwa [Addr.add_lit] at this
    exact ⟨b, off, rfl, World.block_lt_of_cell? _ _ (hc' 0 (List.length_pos_iff.2 hl)).2.2.1, hc'⟩

theorem Ol3.len {w : World} {ao : Option Addr} {c : Nat} {l : List Op3} (h : Ol3 w ao c l) : (l.length : Int) ≤ 9223372036854775807 := by
  rcases h with ⟨_, _, rfl⟩ | ⟨A, _, q1, q2, _⟩
  · simp
  · unfold maxLen at q2; omega

theorem Op3At.below {w w' : World} {B b off : Nat} {x : Op3} (h : Op3At w ⟨b, off, none⟩ x) (hb : Below B w w') (hB : b < B) (hw : w.heap.size ≤ B) : Op3At w' ⟨b, off, none⟩ x := by
  obtain ⟨h1, h2, h3, h4, h5, h6, h7⟩ := h
  refine ⟨h1, h2.below hb (fun A hA hl => by have h8 := h2; rw [hA] at h8; have := h8.lt hl; omega), (hb.cell (p := ⟨b, off, none⟩) hB).trans h3, ?_, ?_, ?_, ?_⟩
  · rw [hb.cell (by rw [add_block]; exact hB)]; exact h4
  · rw [hb.cell (by rw [add_block]; exact hB)]; exact h5
  · rw [hb.cell (by rw [add_block]; exact hB)]; exact h6
  · rw [hb.cell (by rw [add_block]; exact hB)]; exact h7

/-- Both tell the same. -/
theorem two_same {L : List Nat} {wq w : World} {d r room : Nat} {M : List Fm} (h : Two L wq w d r room M M) (hfew : M.length ≤ 400000) :
    Calls Try.prog 18 #[.pointer (some ⟨d, 0, none⟩), .pointer (some ⟨r, 0, none⟩)] w fun e w' => e = .returned (.bool true) ∧ Two L wq w' d r room M M := by
  have h0 := h
  obtain ⟨h1, l, k, hd, hr, hl, hk⟩ := h
  refine (same_calls w hd hr hfew).mono ?_
  rintro e w' ⟨rfl, hb⟩
  exact ⟨rfl, h0.turn (Turn.of_below hb [])⟩

set_option maxHeartbeats 4000000 in
set_option maxRecDepth 100000 in
theorem fileAll_walk (a0 : Int) (_w0 : (Lit.int .i64 a0).wf = true) {w : World} (a1 : Option Addr) (c1 : Nat) (l1 : List Op3) (h1 : Ol3 w a1 c1 l1) :
    Calls Try.prog 3 #[.int .i64 a0, .slice a1 l1.length c1] w fun e w' => e = .returned (.bool true) ∧ Below w.heap.size w w' := by
  have H1 := Lib.hid h1
  have hlen := h1.len
  clear h1
  go_enter Try.func3, Try.ntmps3
  go_wp2_with fail
  refine (begun3_calls _).mono ?_
  rintro e x1 ⟨rfl, hb1⟩
  have B1 := Lib.hid hb1
  clear hb1
  go_wp2_with fail
  refine (dk_new a0 _).mono ?_
  rintro e x2 ⟨rfl, hd2⟩
  have D2 := Lib.hid hd2
  clear hd2
  go_wp2_with fail
  refine (newRef_calls a0 _).mono ?_
  rintro e x3 ⟨rfl, hr3, hb3⟩
  have H3 := Lib.hid (two_new D2.out hr3 hb3)
  clear hr3 hb3 D2
  generalize x1.heap.size = d0 at H3 ⊢
  generalize x2.heap.size = r0 at H3 ⊢
  generalize roomOf a0 = room at H3
  go_wp2_with fail
  go_loopw [6, 7, 8, 9] (fun v6 v7 v8 v9 wr => ∃ (k d r : Nat) (M : List Fm), k ≤ l1.length ∧ k ≤ 40 ∧ v9 = .int .i64 k ∧ v6 = .pointer (some ⟨d, 0, none⟩) ∧ v7 = .pointer (some ⟨r, 0, none⟩) ∧ v8 = .bool true ∧ Two [] x1 wr d r room M M ∧ M.length ≤ k) (fun _ _ _ i _ => l1.length - (intOf i).toNat)
  case atStart => exact ⟨0, d0, r0, [], by omega, by omega, rfl, rfl, rfl, rfl, H3.out, by simp⟩
  case round =>
    clear H3
    obtain ⟨k, d, r, M, hk, hk40, rfl, rfl, rfl, rfl, hT, hfew⟩ := hrel
    have HT := Lib.hid hT
    have HF := Lib.hid hfew
    clear hT hfew
    by_cases hgo : k < l1.length ∧ k < 40
    · obtain ⟨hlt, h40⟩ := hgo
      obtain ⟨ob, off, ha0, hob, hop⟩ := H1.out.at (by intro e; rw [e] at hlt; simp at hlt)
      subst ha0
      have hx0 := (hop k hlt).below B1.out hob (Nat.le_refl _)
      have hx1 := hx0.below HT.out.old.belowAll (by have := B1.out.size; omega) (Nat.le_refl _)
      generalize l1.getD k opNo = op at hx0 hx1
      obtain ⟨kd, nn, nm, tt, ba, bc, bl⟩ := op
      obtain ⟨⟨hkd, hnn, hnm, htt⟩, -, o0, o1, o2, o3, o4⟩ := hx1
      have hsl := hx0.2.1
      dsimp only at hkd hnn hnm htt hsl o0 o1 o2 o3 o4
      simp only [Addr.add_lit] at o1 o2 o3 o4
      have CD := Lib.hid (do_calls HT.out kd nn hnn nm tt hnm htt ba bc bl hsl (by have := HF.out; omega))
      have hd40 : decide ((k : Int) < 40) = true := by simp; omega
      have hlt2 : (k : Int) < (l1.length : Int) := by omega
      clear hop hsl hx0 hkd hnn hnm htt
      generalize bl.length = bn at *
      go_wp2_with fail
      refine CD.out.mono ?_
      rintro e x5 ⟨d5, r5, M5, rfl, hT5, hl5⟩
      have HT5 := Lib.hid hT5
      have HL5 := Lib.hid hl5
      clear hT5 hl5 o0 o1 o2 o3 o4 CD
      go_wp2_with fail
      refine (two_same HT5.out (by have := HL5.out; have := HF.out; omega)).mono ?_
      rintro e x6 ⟨rfl, hT6⟩
      have HT6 := Lib.hid hT6
      clear hT6
      go_wp2
      go_roundw
      case rel => exact ⟨k + 1, d5, r5, M5, by omega, by omega, by go_num, rfl, rfl, rfl, HT6.out, by have := HL5.out; have := HF.out; omega⟩
      case measure => simp [intOf]; omega
    · by_cases hlt : k < l1.length
      · have hd40 : decide ((k : Int) < 40) = false := by simp; omega
        clear hgo
        go_wp2_with fail
        refine (two_same HT.out (by have := HF.out; omega)).mono ?_
        rintro e x6 ⟨rfl, hT6⟩
        have HT6 := Lib.hid hT6
        clear hT6
        go_wp2
        go_ret
        exact ⟨rfl, B1.out.trans (HT6.out.old.belowAll.mono B1.out.size)⟩
      · clear hgo
        go_wp2_with fail
        refine (two_same HT.out (by have := HF.out; omega)).mono ?_
        rintro e x6 ⟨rfl, hT6⟩
        have HT6 := Lib.hid hT6
        clear hT6
        go_wp2
        go_ret
        exact ⟨rfl, B1.out.trans (HT6.out.old.belowAll.mono B1.out.size)⟩

end Go.Proofs.Ytlcilbbgfilefaa
