/-
  The walk of unframe.
-/
import Derived.Test.YtjdpglmphacfjaaGreatDoorSegTxs
namespace Go.Proofs.YtjdpglmphacfjaaGreatDoor
open Go.RowKit

theorem drop_unfr {b t : List UInt8} {s : Nat} {T : List (List UInt8)} (h : unfr b = (T ++ (unfr (b.drop s)).1, s + (unfr (b.drop s)).2.1, (unfr (b.drop s)).2.2)) (hc : cutR (b.drop s) = .ok t) :
    unfr b = ((T ++ [t]) ++ (unfr (b.drop (s + (6 + t.length)))).1, (s + (6 + t.length)) + (unfr (b.drop (s + (6 + t.length)))).2.1, (unfr (b.drop (s + (6 + t.length)))).2.2) := by
  rw [h, unfr_ok hc, List.drop_drop]
  simp [Nat.add_assoc]

set_option maxHeartbeats 4000000 in
set_option maxRecDepth 100000 in
theorem unframe_calls (ao : Option Addr) (c : Nat) (b : List UInt8) (w : World) (hs : Sl w ao c b) (hl : b.length ≤ 1048576) :
    Calls Tryz.prog 50 #[.slice ao b.length c] w fun e w' => ∃ v, e = .returned (.tuple #[v, .int .i64 ((unfr b).2.1 : Nat), .int .i64 ((unfr b).2.2 : Nat)]) ∧ Txs w' (fun k => w.heap.size ≤ k) v (unfr b).1 ∧ Below w.heap.size w w' := by
  have hle := hs.le
  unfold maxLen at hle
  have HS := Lib.hid hs
  obtain ⟨nb, hnb⟩ : ∃ nb, nb = b.length := ⟨_, rfl⟩
  have HSB := Lib.hid (fun s (h : s ≤ b.length) => slice_back ao b.length c s h)
  rw [← hnb] at hl hle HSB ⊢
  have HNB := Lib.hid hnb
  have hbc : nb ≤ c := hle.1
  have hc9 : c ≤ 9223372036854775807 := by omega
  clear hs hnb hle
  go_enter Tryz.func50, Tryz.ntmps50
  go_wp2_with fail
  go_loopw [5, 6] (fun v5 v6 wr => ∃ (s : Nat) (T : List (List UInt8)), s ≤ nb ∧ v6 = .int .i64 s ∧ T.length ≤ s ∧ Txs wr (fun k => w.heap.size ≤ k) v5 T ∧ Below w.heap.size w wr ∧ unfr b = (T ++ (unfr (b.drop s)).1, s + (unfr (b.drop s)).2.1, (unfr (b.drop s)).2.2)) (fun _ i _ => nb - (intOf i).toNat)
  case atStart => exact ⟨0, [], by omega, rfl, by simp, Txs.nil _ _, Below.refl _ _, by simp⟩
  case round =>
    obtain ⟨s, T, hsn, rfl, hTs, hT, hb, hu⟩ := hrel
    have HT := Lib.hid hT
    have HB := Lib.hid hb
    have HU := Lib.hid hu
    have HTS := Lib.hid hTs
    clear hT hb hu hTs
    by_cases hlt : s < nb
    · have hsd := (HS.out.belowAll HB.out).drop (k := s) (by rw [← HNB.out]; omega)
      have hdl : (b.drop s).length = nb - s := by rw [List.length_drop, ← HNB.out]
      have hsb := HSB.out s (by omega)
      cases hc : cutR (b.drop s) with
      | ok t =>
        have C := cut_ok wr hsd hc
        rw [hdl] at C
        have hck := cutR_ok hc
        have HNX := Lib.hid (drop_unfr HU.out hc)
        have HCK : Hid (s + (6 + t.length) ≤ nb ∧ 1 ≤ t.length ∧ t.length ≤ 4000) := Lib.hid (by omega)
        have HC := Lib.hid C
        clear C hck hsd hdl hc
        go_wp2_with fail
        refine HC.out.mono ?_
        rintro e w2 ⟨ao2, c2, rfl, hs2, ha2, hb2⟩
        have hT2 := HT.out.turn (Turn.of_below hb2 []) (by simp)
        have hs3 := hs2.turn (Turn.alloc [] w2 (.cells #[.slice ao2 t.length c2] 31)) (by simp)
        have hT3 := hT2.turn (Turn.alloc [] w2 (.cells #[.slice ao2 t.length c2] 31)) (by simp)
        obtain ⟨xs, hxs, hfin⟩ := Txs.appended (U := [t]) (Q := fun k => w.heap.size ≤ k) hT3 [.slice ao2 t.length c2] rfl (fun i hi => by
          have hi0 : i = 0 := by simpa using hi
          subst hi0
          refine ⟨ao2, c2, rfl, hs3, fun A hA _ => ⟨?_, fun e2 => ?_⟩⟩
          · have := ha2 A hA
            have := HB.out.size
            show w.heap.size ≤ A.block
            omega
          · obtain ⟨-, xs0, hr0, -⟩ := HT.out
            have h1 := (hr0.lt A.block e2).2
            have := ha2 A hA
            omega) (fun k hk => hk) (fun k hk => by
          have h1 := HB.out.size
          have h2 := hb2.size
          simp at hk
          show w.heap.size ≤ k
          omega)
        have HX := Lib.hid hxs
        have HF := Lib.hid hfin
        have B2 := Lib.hid (HB.out.trans (hb2.mono HB.out.size))
        have HV := Lib.hid HT.out.1
        have hz2 := hb2.size
        have HZ := Lib.hid hz2
        have HN1 : Hid (T.length + 1 ≤ 2000000) := Lib.hid (by have := HTS.out; omega)
        clear hxs hfin hs2 ha2 hb2 hT2 hs3 hT3 hsb hz2
        generalize t.length = tl at *
        have hst : (s : Int) + (6 + (tl : Int)) ≤ (nb : Int) := by have := HCK.out; omega
        go_wp2_with (at_builtin; refine append_tx rfl (.tmp 27) (.tmp 29) rfl _ T.length xs rfl HX.out ⟨w2.heap.size, 0, none⟩ 1 1 [.slice ao2 tl c2] rfl rfl (one_new w2 _ _) (by intro u hu; simp at hu; subst hu; rfl) HN1.out ?_; intro v3 w3 hr3 hg3 hl3; have HT3 := Lib.hid (HF.out v3 w3 hr3 hg3 hl3); have B3 := Lib.hid ((B2.out.trans ((new_below w2 _).mono B2.out.size)).grown hg3 (by have := B2.out.size; simp; omega) HV.out); clear hr3 hg3 hl3)
        go_roundw
        case rel =>
          have h1 := HCK.out
          have h2 := HTS.out
          exact ⟨s + (6 + tl), T ++ [t], by omega, by go_num, by rw [List.length_append, List.length_singleton]; omega, HT3.out, B3.out, HNX.out⟩
        case measure => simp [intOf]; have := HCK.out; omega
      | more =>
        have C := cut_err wr hsd (by rw [hc]; intro t h; cases h)
        rw [hdl, hc] at C
        have HC := Lib.hid C
        have hfin : unfr b = (T, s, 2) := by
          have h1 := HU.out
          rw [unfr_more (by rw [hdl]; omega) hc] at h1
          simpa using h1
        have HFN := Lib.hid hfin
        clear C hsd hdl hc hfin
        go_wp2_with fail
        refine HC.out.mono ?_
        rintro e w2 ⟨rfl, hb2⟩
        have HT2 := Lib.hid (HT.out.turn (Turn.of_below hb2 []) (by simp))
        have B2 := Lib.hid (HB.out.trans (hb2.mono HB.out.size))
        clear hb2
        rw [show errOf Cr.more = 2 from rfl]
        go_wp2
        go_ret3
        rw [HFN.out]
        exact ⟨_, rfl, HT2.out, B2.out⟩
      | bad =>
        have C := cut_err wr hsd (by rw [hc]; intro t h; cases h)
        rw [hdl, hc] at C
        have HC := Lib.hid C
        have hfin : unfr b = (T, s, 3) := by
          have h1 := HU.out
          rw [unfr_bad hc] at h1
          simpa using h1
        have HFN := Lib.hid hfin
        clear C hsd hdl hc hfin
        go_wp2_with fail
        refine HC.out.mono ?_
        rintro e w2 ⟨rfl, hb2⟩
        have HT2 := Lib.hid (HT.out.turn (Turn.of_below hb2 []) (by simp))
        have B2 := Lib.hid (HB.out.trans (hb2.mono HB.out.size))
        clear hb2
        rw [show errOf Cr.bad = 3 from rfl]
        go_wp2
        go_ret3
        rw [HFN.out]
        exact ⟨_, rfl, HT2.out, B2.out⟩
    · have hfin : unfr b = (T, s, 0) := by
        have h1 := HU.out
        rw [List.drop_of_length_le (by rw [← HNB.out]; omega), unfr_nil] at h1
        simpa using h1
      have HFN := Lib.hid hfin
      clear hfin
      go_wp2
      go_ret3
      rw [HFN.out]
      exact ⟨_, rfl, HT.out, HB.out⟩

end Go.Proofs.YtjdpglmphacfjaaGreatDoor
