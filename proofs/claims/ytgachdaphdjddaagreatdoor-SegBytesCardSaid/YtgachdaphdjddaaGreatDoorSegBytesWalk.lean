/-
  The walk of the law SegBytes.
-/
import Derived.Test.YtgachdaphdjddaaGreatDoorBegun4
import Derived.Test.YtgachdaphdjddaaGreatDoorSegPut
import Derived.Test.YtgachdaphdjddaaGreatDoorOpenTx
import Derived.Test.YtgachdaphdjddaaGreatDoorRefFr
import Derived.Test.YtgachdaphdjddaaGreatDoorShortNew
namespace Go.Proofs.YtgachdaphdjddaaGreatDoor
open Go.RowKit

theorem frs_le {T : List (List UInt8)} {n : Nat} (h : ∀ t ∈ T, t.length ≤ n) : (frs T).length ≤ (n + 6) * T.length := by
  induction T with
  | nil => simp [frs_nil]
  | cons t T ih =>
    rw [frs_cons, List.length_append, frB_length, List.length_cons, Nat.mul_succ]
    have := ih (fun x hx => h x (by simp [hx]))
    have := h t (by simp)
    omega

theorem frs_empty {T : List (List UInt8)} (h : frs T = []) : T = [] := by
  cases T with
  | nil => rfl
  | cons t T =>
    have := congrArg List.length h
    rw [frs_cons, List.length_append, frB_length] at this
    simp at this

theorem name0 : (⟨#[108, 111, 103, 48, 48, 48]⟩ : ByteArray) = ⟨(segName 0).toArray⟩ := rfl

set_option maxHeartbeats 8000000 in
set_option maxRecDepth 100000 in
theorem segBytes_walk (a0 : Option Addr) (cap0 : Nat) (l0 : List (List UInt8)) (w : World) (w0 : Tl w a0 cap0 l0) (htab : Tab w) :
    Calls Tryz.prog 9 #[.slice a0 l0.length cap0] w fun e w' => e = .returned (.bool true) ∧ Below w.heap.size w w' := by
  have hlen := w0.len
  have H0 := Lib.hid w0
  have HTB := Lib.hid htab
  clear w0 htab
  go_enter Tryz.func9, Tryz.ntmps9
  go_wp2_with fail
  refine (begun4_calls _ HTB.out).mono ?_
  rintro e x1 ⟨rfl, hb1⟩
  have B1 := Lib.hid hb1
  have T1 := Lib.hid (HTB.out.turn (Turn.of_below hb1 []) (by simp))
  clear hb1
  go_wp2_with fail
  refine (dk_new 1048576 x1).mono ?_
  rintro e x2 ⟨rfl, hd⟩
  rw [room_big] at hd
  have D2 := Lib.hid hd
  obtain ⟨d, hdd⟩ : ∃ d, d = x1.heap.size := ⟨_, rfl⟩
  rw [← hdd] at D2 ⊢
  clear hd hdd
  go_wp2_with fail
  refine (open_calls D2.out T1.out 0 (by decide) 0 (fun n => by simp [mDel, bytesOf]) (by simp)).mono ?_
  rintro e x3 ⟨hok, -⟩
  obtain ⟨lb, rfl, hl3⟩ := hok (by rw [open_first.1])
  rw [open_first.1, open_first.2] at hl3
  have hl3' : Lg [] x1 x3 lb d rBig 0 [] (oneM []) := hl3
  obtain ⟨L0, hL0, hge0⟩ := hl3'.start
  have LA0 := Lib.hid hL0
  have GE0 := Lib.hid (show ∀ k ∈ L0, w.heap.size ≤ k from fun k hk => Nat.le_trans B1.out.size (hge0 k hk))
  have B3 : Hid (Below w.heap.size w x3) := Lib.hid (B1.out.trans (hl3'.1.belowAll.mono B1.out.size))
  clear hl3 hl3' hok D2 hL0 hge0
  go_wp2_with fail
  go_loopw [7, 8] (fun v i wr => ∃ (k : Nat) (T : List (List UInt8)) (L : List Nat), k ≤ l0.length ∧ k ≤ 10 ∧ i = .int .i64 k ∧ (LgAt L wr lb d rBig 0 T (oneM T) ∧ ∀ j ∈ L, w.heap.size ≤ j) ∧ (wr.ownsRow 0 5 1 v (frs T).length (u8s (frs T)) ∧ ∀ g, v.ownBlock = some g → g ∉ L ∧ w.heap.size ≤ g) ∧ (T.length ≤ k ∧ ∀ t ∈ T, t.length ≤ 60) ∧ Below w.heap.size w wr) (fun _ i _ => 10 - (intOf i).toNat)
  case atStart => exact ⟨0, [], L0, by omega, by omega, rfl, ⟨LA0.out, GE0.out⟩, ⟨World.ownsRow_nil _ _ _ _, (by intro g hg; cases hg)⟩, ⟨by simp, by simp⟩, B3.out⟩
  case round =>
    clear LA0 GE0 B3
    obtain ⟨k, T, L, hk, hk10, rfl, ⟨hla, hge⟩, ⟨hrow, hvg⟩, ⟨hT, hall⟩, hbl⟩ := hrel
    have LA := Lib.hid hla
    have GE := Lib.hid hge
    have RW := Lib.hid hrow
    have VG := Lib.hid hvg
    have HALL := Lib.hid hall
    have BW := Lib.hid hbl
    have hfl : (frs T).length ≤ 660 := by have := frs_le hall; omega
    obtain ⟨av, cv, hv, hslv, -⟩ := Sl.of_owns hrow
    subst hv
    have SV := Lib.hid hslv
    obtain ⟨fr, hfr⟩ : ∃ fr, fr = frs T := ⟨_, rfl⟩
    have HFR := Lib.hid hfr
    rw [← hfr] at hfl RW VG SV ⊢
    obtain ⟨nf, hnf⟩ : ∃ nf, nf = fr.length := ⟨_, rfl⟩
    have HNF := Lib.hid hnf
    rw [← hnf] at hfl RW VG ⊢
    clear hla hge hrow hvg hall hbl hslv hfr hnf
    by_cases hlt : k < l0.length ∧ k < 10
    · obtain ⟨hl, h10⟩ := hlt
      obtain ⟨ob, off, ha0, hob, hop⟩ := H0.out.at (by intro e; rw [e] at hl; simp at hl)
      subst ha0
      obtain ⟨ax, cx, hcell, hslx⟩ := hop k hl
      have hz := (BW.out.cell (p := ⟨ob, off + k, none⟩) hob).trans hcell
      have hsx := hslx.belowAll BW.out
      clear hop hcell hslx
      generalize l0.getD k [] = x at hz hsx
      obtain ⟨nx, hnx⟩ : ∃ nx, nx = x.length := ⟨_, rfl⟩
      have hd10 : decide ((k : Int) < 10) = true := by simp; omega
      have CSH := Lib.hid (short_new ax cx 60 x wr hsx (by omega))
      rw [← hnx] at hz CSH
      clear hsx hnx
      go_wp2_with fail
      refine CSH.out.mono ?_
      rintro e x4 ⟨ao, co, rfl, hs4, hb4, ha4⟩
      obtain ⟨y, hy⟩ : ∃ y, y = x.take 60 := ⟨_, rfl⟩
      have hy60 : y.length ≤ 60 := by rw [hy, List.length_take]; omega
      rw [← hy] at hs4 ⊢
      have t4 := Turn.of_below hb4 []
      have LA4 := Lib.hid (LA.out.shift t4 (by simp) (by simp))
      have hsz4 := hb4.size
      have S4 := Lib.hid hs4
      have A4 := Lib.hid ha4
      have B4 := Lib.hid (BW.out.trans (hb4.mono BW.out.size))
      have VL := Lib.hid (show ∀ g, (Value.slice av nf cv).ownBlock = some g → g < wr.heap.size from fun g hg => (RW.out.lt g hg).2)
      have R4 := Lib.hid (ownsRow_turn RW.out t4 (fun _ _ => by simp))
      clear hy hs4 ha4 hb4 t4 hz CSH
      by_cases hye : y = []
      · subst hye
        have hd0 : decide (0 < ([] : List UInt8).length) = false := rfl
        go_wp2_with fail
        refine (add_form LA4.out.1 ao co [] (by decide)).mono ?_
        rintro e x5 ⟨rfl, rfl⟩
        go_wp2_with fail
        refine (refFrame_none ao co [] _ (by decide)).mono ?_
        rintro e x6 ⟨rfl, rfl⟩
        go_wp2_with (at_builtin; refine append_bytes_at rfl (.tmp 46) (.tmp 48) rfl _ fr rfl (by rw [← HNF.out]; exact R4.out) none 0 [] rfl (Sl.nil _) (by rw [← HNF.out]; simp; omega) ?_)
        intro v7 x7 hown7 hg7 hat7
        have tg := Turn.grown (l := (Value.slice av nf cv).ownBlock.toList) hg7 (fun k hk => .inl (by rw [hk]; simp))
        have LA7 := Lib.hid (LA4.out.shift tg (fun g hg => (VG.out g (Option.mem_toList.1 hg)).1) (fun hm => by have h1 := (VG.out _ (Option.mem_toList.1 hm)).2; have h2 := HTB.out.lt; omega))
        have B7 := Lib.hid (B4.out.grown hg7 B4.out.size (fun g hg => (VG.out g hg).2))
        have R7 : Hid (x7.ownsRow 0 5 1 v7 (frs T).length (u8s (frs T))) := Lib.hid (by rw [← HFR.out]; simpa using hown7)
        have V7 : Hid (∀ g, v7.ownBlock = some g → g ∉ L ∧ w.heap.size ≤ g) := Lib.hid (by
          intro g hg
          rcases hat7 with h1 | h1
          · exact VG.out g (by rw [← h1]; exact hg)
          · rw [h1] at hg
            cases hg
            exact ⟨fun hm => by have := LA.out.2 _ hm; omega, B4.out.size⟩)
        clear hown7 hg7 hat7 tg
        go_wp2
        go_roundw
        case rel => exact ⟨k + 1, T, L, by omega, by omega, by go_num, ⟨LA7.out, GE.out⟩, ⟨R7.out, V7.out⟩, ⟨by omega, HALL.out⟩, B7.out⟩
        case measure => simp [intOf]; omega
      · have hyp : 0 < y.length := List.length_pos_iff.2 hye
        have hok : okF y = true := okF_iff.2 ⟨by omega, by omega⟩
        have hd0 : decide (0 < y.length) = true := by simp; omega
        have hd0' : decide ((0 : Int) < (y.length : Int)) = true := by simp; omega
        have hnl : ∀ A, ao = some A → A.block ∉ L := fun A hA hm => by have h1 := LA.out.2 _ hm; have h2 := A4.out A hA; omega
        have hfl2 : (frs T).length < 2000 := by rw [← HFR.out, ← HNF.out]; omega
        have CA := add_calls LA4.out.1 ao co y hok S4.out (fun A hA _ => hnl A hA) (by rw [(oneM_to hfl2).1]; decide) (by omega)
        rw [(oneM_to hfl2).1, (oneM_to hfl2).2, oneM_app.1, oneM_app.2, show (frs T).length = nf by rw [HNF.out, HFR.out], if_neg (by unfold rBig; omega), if_neg (by unfold rBig; omega)] at CA
        have HCA := Lib.hid CA
        have HNL := Lib.hid hnl
        have HOK := Lib.hid hok
        clear CA hnl hfl2 hok
        go_wp2_with fail
        refine HCA.out.mono ?_
        rintro e x5 ⟨rfl, hl5, -⟩
        have hl5' := hl5 (by trivial)
        obtain ⟨L', hL', hin'⟩ := hl5'.next
        have t5 := hl5'.1
        have S5 := Lib.hid (S4.out.turn t5 (fun A hA _ => HNL.out A hA))
        have R5 := Lib.hid (ownsRow_turn R4.out t5 (fun g hg => (VG.out g hg).1))
        have B5 := Lib.hid (B4.out.trans (t5.below GE.out B4.out.size))
        have LA5 := Lib.hid hL'
        have IN5 := Lib.hid hin'
        have hsz5 := t5.size
        clear hl5 hl5' t5 hL' hin' HCA
        go_wp2_with fail
        refine (refFrame_some ao co y x5 HOK.out S5.out).mono ?_
        rintro e x6 ⟨v6, rfl, hown6, hb6⟩
        obtain ⟨fb, hfb⟩ : ∃ fb, fb = frB y := ⟨_, rfl⟩
        have hfbl : fb.length ≤ 66 := by rw [hfb, frB_length]; omega
        rw [← hfb] at hown6
        have HFB := Lib.hid hfb
        obtain ⟨af, cf, rfl, hsf, -⟩ := Sl.of_owns hown6
        have SF := Lib.hid hsf
        have t6 := Turn.of_below hb6 []
        have R6 := Lib.hid (ownsRow_turn R5.out t6 (fun _ _ => by simp))
        have LA6 := Lib.hid (LA5.out.shift t6 (by simp) (by simp))
        have B6 := Lib.hid (B5.out.trans (hb6.mono B5.out.size))
        have hsz6 := hb6.size
        obtain ⟨nb, hnb⟩ : ∃ nb, nb = fb.length := ⟨_, rfl⟩
        have HNB := Lib.hid hnb
        rw [← hnb] at hfbl ⊢
        clear hown6 hb6 hfb hsf t6 hnb S5 R5
        go_wp2_with (at_builtin; refine append_bytes_at rfl (.tmp 46) (.tmp 48) rfl _ fr rfl (by rw [← HNF.out]; exact R6.out) af cf fb (by rw [← HNB.out]; rfl) SF.out (by rw [← HNF.out, ← HNB.out]; omega) ?_)
        intro v7 x7 hown7 hg7 hat7
        have hvL : ∀ g, (Value.slice av nf cv).ownBlock = some g → g ∉ L' := fun g hg hm => by
          rcases IN5.out g hm with h1 | h1
          · exact (VG.out g hg).1 h1
          · have := VL.out g hg; omega
        have tg := Turn.grown (l := (Value.slice av nf cv).ownBlock.toList) hg7 (fun k hk => .inl (by rw [hk]; simp))
        have LA7 := Lib.hid (LA6.out.shift tg (fun g hg => hvL g (Option.mem_toList.1 hg)) (fun hm => by have h1 := (VG.out _ (Option.mem_toList.1 hm)).2; have h2 := HTB.out.lt; omega))
        have B7 := Lib.hid (B6.out.grown hg7 B6.out.size (fun g hg => (VG.out g hg).2))
        have R7 : Hid (x7.ownsRow 0 5 1 v7 (frs (T ++ [y])).length (u8s (frs (T ++ [y])))) := Lib.hid (by rw [frs_append, frs_one, ← HFR.out, ← HFB.out]; simpa using hown7)
        have V7 : Hid (∀ g, v7.ownBlock = some g → g ∉ L' ∧ w.heap.size ≤ g) := Lib.hid (by
          intro g hg
          rcases hat7 with h1 | h1
          · exact ⟨hvL g (by rw [← h1]; exact hg), (VG.out g (by rw [← h1]; exact hg)).2⟩
          · rw [h1] at hg
            cases hg
            exact ⟨fun hm => by have := LA5.out.2 _ hm; omega, B6.out.size⟩)
        have GE7 : Hid (∀ j ∈ L', w.heap.size ≤ j) := Lib.hid (fun j hj => by
          rcases IN5.out j hj with h1 | h1
          · exact GE.out j h1
          · exact Nat.le_trans B4.out.size h1)
        clear hown7 hg7 hat7 tg hvL
        go_wp2
        go_roundw
        case rel => exact ⟨k + 1, T ++ [y], L', by omega, by omega, by go_num, ⟨LA7.out, GE7.out⟩, ⟨R7.out, V7.out⟩, ⟨by simp; omega, by
          intro t ht
          rcases List.mem_append.1 ht with h1 | h1
          · exact HALL.out t h1
          · simp at h1; rw [h1]; exact hy60⟩, B7.out⟩
        case measure => simp [intOf]; omega
    · by_cases hl : k < l0.length
      · have hd10 : decide ((k : Int) < 10) = false := by simp; omega
        go_wp2_with fail
        rw [name0]
        refine (lg_read LA.out.1 (segName_len 0)).mono ?_
        rintro e x5 ⟨ar, cr, rfl, hsr, -, -, hb5⟩
        rw [oneM_bytes, ← HFR.out] at hsr
        rw [oneM_bytes, oneM_has, ← HFR.out]
        have hc1 : (convert 22 9 (.slice ar fr.length cr)).run Tryz.prog x5 = .ok (.string ⟨fr.toArray⟩) x5 := conv_sl hsr rfl
        have hc2 : (convert 22 9 (.slice av nf cv)).run Tryz.prog x5 = .ok (.string ⟨fr.toArray⟩) x5 := conv_sl (SV.out.belowAll hb5) HNF.out
        have B5 := Lib.hid (BW.out.trans (hb5.mono BW.out.size))
        clear hsr hb5
        by_cases hTe : T = []
        · have hn0 : nf = 0 := by rw [HNF.out, HFR.out, hTe]; rfl
          have hd1 : decide (0 < nf) = false := by simp; omega
          have hd2 : decide ((0 : Int) < (nf : Int)) = false := by simp; omega
          have hemp : T.isEmpty = true := by rw [hTe]; rfl
          clear hTe hn0
          go_wp2
          go_ret
          exact ⟨rfl, B5.out⟩
        · have hn0 : 0 < nf := by
            rw [HNF.out, HFR.out]
            exact List.length_pos_iff.2 (fun e => hTe (frs_empty e))
          have hd1 : decide (0 < nf) = true := by simp; omega
          have hd2 : decide ((0 : Int) < (nf : Int)) = true := by simp; omega
          have hemp : T.isEmpty = false := by cases T with | nil => exact absurd rfl hTe | cons a T => rfl
          clear hTe
          go_wp2
          go_ret
          exact ⟨rfl, B5.out⟩
      · go_wp2_with fail
        rw [name0]
        refine (lg_read LA.out.1 (segName_len 0)).mono ?_
        rintro e x5 ⟨ar, cr, rfl, hsr, -, -, hb5⟩
        rw [oneM_bytes, ← HFR.out] at hsr
        rw [oneM_bytes, oneM_has, ← HFR.out]
        have hc1 : (convert 22 9 (.slice ar fr.length cr)).run Tryz.prog x5 = .ok (.string ⟨fr.toArray⟩) x5 := conv_sl hsr rfl
        have hc2 : (convert 22 9 (.slice av nf cv)).run Tryz.prog x5 = .ok (.string ⟨fr.toArray⟩) x5 := conv_sl (SV.out.belowAll hb5) HNF.out
        have B5 := Lib.hid (BW.out.trans (hb5.mono BW.out.size))
        clear hsr hb5
        by_cases hTe : T = []
        · have hn0 : nf = 0 := by rw [HNF.out, HFR.out, hTe]; rfl
          have hd1 : decide (0 < nf) = false := by simp; omega
          have hd2 : decide ((0 : Int) < (nf : Int)) = false := by simp; omega
          have hemp : T.isEmpty = true := by rw [hTe]; rfl
          clear hTe hn0
          go_wp2
          go_ret
          exact ⟨rfl, B5.out⟩
        · have hn0 : 0 < nf := by
            rw [HNF.out, HFR.out]
            exact List.length_pos_iff.2 (fun e => hTe (frs_empty e))
          have hd1 : decide (0 < nf) = true := by simp; omega
          have hd2 : decide ((0 : Int) < (nf : Int)) = true := by simp; omega
          have hemp : T.isEmpty = false := by cases T with | nil => exact absurd rfl hTe | cons a T => rfl
          clear hTe
          go_wp2
          go_ret
          exact ⟨rfl, B5.out⟩

end Go.Proofs.YtgachdaphdjddaaGreatDoor
