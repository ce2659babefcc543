/-
  The walk of the law SegMiddle.
-/
import Derived.Test.YtgachdaphdjddaaGreatDoorBegun4
import Derived.Test.YtgachdaphdjddaaGreatDoorSegPut
import Derived.Test.YtgachdaphdjddaaGreatDoorRefFr
import Derived.Test.YtgachdaphdjddaaGreatDoorShortNew
import Derived.Test.YtgachdaphdjddaaGreatDoorOpen
namespace Go.Proofs.YtgachdaphdjddaaGreatDoor
open Go.RowKit

theorem readS_ok {room num n : Nat} {M : List Fm} (h : (unfr (bytesOf M (segName n))).2.2 = 0) : readS room num M n = (0, (unfr (bytesOf M (segName n))).1, M) := by
  unfold readS
  rw [if_neg (by omega), if_pos h]

theorem readS_mid {room num n : Nat} {M : List Fm} (h : (unfr (bytesOf M (segName n))).2.2 = 2) (hn : n < num) : readS room num M n = (3, [], M) := by
  unfold readS
  rw [if_pos h, if_pos hn]

theorem readS_bad {room num n : Nat} {M : List Fm} (h : (unfr (bytesOf M (segName n))).2.2 = 3) : readS room num M n = (3, [], M) := by
  unfold readS
  rw [if_neg (by omega), if_neg (by omega), h]
  rfl

def twoM (bs bs2 : List UInt8) : List Fm := [⟨segName 0, bs, 0, false⟩, ⟨segName 1, bs2, 0, false⟩]

theorem twoM_at (bs bs2 : List UInt8) : openAt (twoM bs bs2) 0 = 1 ∧ mDel newName (twoM bs bs2) = twoM bs bs2 ∧ bytesOf (twoM bs bs2) (segName 0) = bs ∧ bytesOf (twoM bs bs2) (segName 1) = bs2 := ⟨by kernel_rfl, by kernel_rfl, by kernel_rfl, by kernel_rfl⟩

theorem oneB_at (bs : List UInt8) : openAt [⟨segName 0, bs, 0, false⟩] 0 = 0 ∧ mDel newName [⟨segName 0, bs, 0, false⟩] = [⟨segName 0, bs, 0, false⟩] ∧ bytesOf [⟨segName 0, bs, 0, false⟩] (segName 0) = bs := ⟨by kernel_rfl, by kernel_rfl, by kernel_rfl⟩

/-- The elder of two is torn, or empty. -/
theorem two_open {a b : List UInt8} (ha : okF a = true) (hb : okF b = true) {k : Nat} (hk : k < (frB a).length) (room : Nat) : (openF room (twoM ((frB a).take k) (frB b)) 0).1 = if k = 0 then 0 else 3 := by
  obtain ⟨h1, h2, h3, h4⟩ := twoM_at ((frB a).take k) (frB b)
  have hub : unfr (frB b) = ([b], (frB b).length, 0) := by
    have := unfr_whole (T := [b]) (by simpa using hb)
    rwa [frs_one] at this
  unfold openF
  rw [h1, h2]
  by_cases h0 : k = 0
  · have hu : unfr ((frB a).take k) = ([], 0, 0) := by rw [h0, List.take_zero, unfr_nil]
    rw [if_pos h0]
    show (openGo room 1 2 0 [] (twoM ((frB a).take k) (frB b))).1 = 0
    rw [openGo, readS_ok (by rw [h3, hu]), if_pos rfl]
    show (openGo room 1 1 1 _ (twoM ((frB a).take k) (frB b))).1 = 0
    rw [openGo, readS_ok (by rw [h4, hub]), if_pos rfl]
    rfl
  · have hu : unfr ((frB a).take k) = ([], 0, 2) := by
      have := unfr_torn (T := []) (by simp) ha (by omega : 0 < k) hk
      simpa [frs_nil] using this
    rw [if_neg h0]
    show (openGo room 1 2 0 [] (twoM ((frB a).take k) (frB b))).1 = 3
    rw [openGo, readS_mid (by rw [h3, hu]) (by omega), if_neg (by simp)]

theorem bad_open (x : UInt8) (room : Nat) : (openF room [⟨segName 0, [0, 0, x], 0, false⟩] 0).1 = 3 := by
  obtain ⟨h1, h2, h3⟩ := oneB_at [0, 0, x]
  have hu : unfr [0, 0, x] = ([], 0, 3) := unfr_bad (by
    unfold cutR
    rw [if_neg (by simp), if_pos (.inl (by simp [cutLen, leN]))])
  unfold openF
  rw [h1, h2]
  show (openGo room 0 1 0 [] _).1 = 3
  rw [openGo, readS_bad (by rw [h3, hu]), if_neg (by simp)]

theorem name0 : (⟨#[108, 111, 103, 48, 48, 48]⟩ : ByteArray) = ⟨(segName 0).toArray⟩ := rfl
theorem name1 : (⟨#[108, 111, 103, 48, 48, 49]⟩ : ByteArray) = ⟨(segName 1).toArray⟩ := rfl

theorem lit_sl (w : World) (l : List UInt8) (cs : Array Value) (n : Nat) (h : cs.toList = u8s l) (hn : l.length = n) (hm : n ≤ 1000) : Sl (w.alloc (.cells cs 5 (0, 0))) (some ⟨w.heap.size, 0, none⟩) n l := by
  subst hn
  have hs : cs.size = l.length * 1 := by rw [← Array.length_toList, h, u8s_length]; omega
  have h1 := World.ownsRow_lit (base := w.heap.size) (e := 5) (size := 1) w cs l.length (Nat.le_refl _) (by unfold maxLen; omega) hs
  rw [h] at h1
  obtain ⟨a, c, he, hsl, -⟩ := Sl.of_owns h1
  injection he with e1 e2 e3
  subst e1 e3
  exact hsl

theorem app_first (bs : List UInt8) (hb : bs.length ≤ 5000) : appE 5000 [] (segName 0) bs = 0 ∧ appM 5000 [] (segName 0) bs = [⟨segName 0, bs, 0, false⟩] := by
  have hok : okName (segName 0) = true := by decide
  unfold appE appM
  rw [if_pos hok, if_pos hok, if_neg (by simp [tot]; omega), if_neg (by simp [tot]; omega)]
  exact ⟨rfl, rfl⟩

theorem app_second (bs bs2 : List UInt8) (hb : bs.length + bs2.length ≤ 5000) : appE 5000 [⟨segName 0, bs, 0, false⟩] (segName 1) bs2 = 0 ∧ appM 5000 [⟨segName 0, bs, 0, false⟩] (segName 1) bs2 = twoM bs bs2 := by
  have hok : okName (segName 1) = true := by decide
  unfold appE appM
  rw [if_pos hok, if_pos hok, if_neg (by simp [tot]; omega), if_neg (by simp [tot]; omega)]
  exact ⟨rfl, rfl⟩

set_option maxHeartbeats 8000000 in
set_option maxRecDepth 100000 in
theorem segMiddle_walk (a0 : Option Addr) (cap0 : Nat) (l0 : List UInt8) (a1 : Option Addr) (cap1 : Nat) (l1 : List UInt8) (a2 : Int) (a3 : Int) (w : World) (w0 : Sl w a0 cap0 l0) (w1 : Sl w a1 cap1 l1) (w2 : (Lit.int .i64 a2).wf = true) (w3 : (Lit.int .u8 a3).wf = true) (htab : Tab w) :
    Calls Tryz.prog 11 #[.slice a0 l0.length cap0, .slice a1 l1.length cap1, .int .i64 a2, .int .u8 a3] w fun e w' => e = .returned (.bool true) ∧ Below w.heap.size w w' := by
  have hb3 := bounds_u8 w3
  have hb2 := bounds_i64 w2
  have H0 := Lib.hid w0
  have H1 := Lib.hid w1
  have HTB := Lib.hid htab
  clear w0 w1 w2 w3 htab
  go_enter Tryz.func11, Tryz.ntmps11
  go_wp2_with fail
  refine (begun4_calls _ HTB.out).mono ?_
  rintro e x1 ⟨rfl, hb1⟩
  have B1 := Lib.hid hb1
  have T1 := Lib.hid (HTB.out.turn (Turn.of_below hb1 []) (by simp))
  have S0 := Lib.hid (H0.out.belowAll hb1)
  have S1 := Lib.hid (H1.out.belowAll hb1)
  clear hb1 H0 H1
  go_wp2_with fail
  refine (short_own a0 cap0 40 l0 x1 S0.out (by omega)).mono ?_
  rintro e x2 ⟨v2, rfl, hown2, hb2'⟩
  obtain ⟨y0, hy0⟩ : ∃ y, y = l0.take 40 := ⟨_, rfl⟩
  have hy0l : y0.length ≤ 40 := by rw [hy0, List.length_take]; omega
  rw [← hy0] at hown2
  clear hy0
  have V2 := Lib.hid (show ∀ g, v2.ownBlock = some g → x1.heap.size ≤ g from fun g hg => (hown2.lt g hg).1)
  have hl1 := lit_sl x2 [1] #[.int .u8 1] 1 rfl rfl (by omega)
  have tA := Turn.alloc [] x2 (.cells #[.int .u8 1] 5 (0, 0))
  have R2a := Lib.hid (ownsRow_turn (ownsRow_base hown2 (base' := 0) (fun _ _ => Nat.zero_le _)) tA (fun _ _ => by simp))
  have BA := Lib.hid (hb2'.trans (tA.belowAll.mono hb2'.size))
  have L1 := Lib.hid hl1
  clear hl1 tA hown2 hb2' S0
  go_wp2_with (at_builtin; refine append_bytes_at rfl (.tmp 22) (.tmp 23) rfl v2 y0 rfl R2a.out (some ⟨x2.heap.size, 0, none⟩) 1 [1] rfl L1.out (by simp; omega) ?_)
  intro v3 x3 hown3 hg3 hat3
  have B3 := Lib.hid (BA.out.grown hg3 BA.out.size V2.out)
  obtain ⟨ya, hya⟩ : ∃ y, y = y0 ++ [1] := ⟨_, rfl⟩
  have hyal : 1 ≤ ya.length ∧ ya.length ≤ 41 := by rw [hya]; simp; omega
  have R3 : Hid (x3.ownsRow 0 5 1 v3 ya.length (u8s ya)) := Lib.hid (by rw [hya]; simpa using hown3)
  have S13 := Lib.hid (S1.out.belowAll B3.out)
  clear hown3 hg3 hat3 V2 R2a BA L1 S1 hya
  go_wp2_with fail
  refine (short_own a1 cap1 40 l1 x3 S13.out (by omega)).mono ?_
  rintro e x4 ⟨v4, rfl, hown4, hb4⟩
  obtain ⟨y1, hy1⟩ : ∃ y, y = l1.take 40 := ⟨_, rfl⟩
  have hy1l : y1.length ≤ 40 := by rw [hy1, List.length_take]; omega
  rw [← hy1] at hown4
  clear hy1
  have V4 := Lib.hid (show ∀ g, v4.ownBlock = some g → x3.heap.size ≤ g from fun g hg => (hown4.lt g hg).1)
  have V3 := Lib.hid (show ∀ g, v3.ownBlock = some g → g < x3.heap.size from fun g hg => (R3.out.lt g hg).2)
  have hl4 := lit_sl x4 [2] #[.int .u8 2] 1 rfl rfl (by omega)
  have tA := Turn.alloc [] x4 (.cells #[.int .u8 2] 5 (0, 0))
  have R4a := Lib.hid (ownsRow_turn (ownsRow_base hown4 (base' := 0) (fun _ _ => Nat.zero_le _)) tA (fun _ _ => by simp))
  have BA := Lib.hid (hb4.trans (tA.belowAll.mono hb4.size))
  have R3a := Lib.hid (ownsRow_turn R3.out ((Turn.of_below hb4 []).trans tA (by simp)) (fun _ _ => by simp))
  have L4 := Lib.hid hl4
  clear hl4 tA hown4 hb4 S13 R3
  go_wp2_with (at_builtin; refine append_bytes_at rfl (.tmp 26) (.tmp 27) rfl v4 y1 rfl R4a.out (some ⟨x4.heap.size, 0, none⟩) 1 [2] rfl L4.out (by simp; omega) ?_)
  intro v5 x5 hown5 hg5 hat5
  have hb5 := BA.out.grown hg5 BA.out.size V4.out
  have B5 := Lib.hid (B3.out.trans (hb5.mono B3.out.size))
  obtain ⟨yb, hyb⟩ : ∃ y, y = y1 ++ [2] := ⟨_, rfl⟩
  have hybl : 1 ≤ yb.length ∧ yb.length ≤ 41 := by rw [hyb]; simp; omega
  have hR5 : x5.ownsRow 0 5 1 v5 yb.length (u8s yb) := by rw [hyb]; simpa using hown5
  have hR3 : x5.ownsRow 0 5 1 v3 ya.length (u8s ya) := R3a.out.kept hg5 (by
    cases h3 : v3.ownBlock with
    | none => exact .inl rfl
    | some g => exact .inr (fun e => by have h4 := V4.out g e.symm; have h5 := V3.out g h3; omega))
  obtain ⟨aa, ca, rfl, hsa, -⟩ := Sl.of_owns hR3
  obtain ⟨ab, cb, rfl, hsb, -⟩ := Sl.of_owns hR5
  have SA := Lib.hid hsa
  have SB := Lib.hid hsb
  clear hown5 hg5 hat5 hb5 hyb hR5 hR3 hsa hsb V3 V4 R3a R4a BA L4
  have okA : okF ya = true := okF_iff.2 ⟨by omega, by omega⟩
  have okB : okF yb = true := okF_iff.2 ⟨by omega, by omega⟩
  have OKA := Lib.hid okA
  have OKB := Lib.hid okB
  clear okA okB
  have BW := Lib.hid (B1.out.trans (B5.out.mono B1.out.size))
  have T5 := Lib.hid (T1.out.turn (Turn.of_below B5.out []) (by simp))
  clear B3 B5 B1 T1
  by_cases hneg : a2 < 0
  · go_wp2
    go_ret
    exact ⟨rfl, BW.out⟩
  · obtain ⟨na, rfl⟩ : ∃ n : Nat, a2 = (n : Int) := ⟨a2.toNat, by omega⟩
    have hd0 : decide ((na : Int) < 0) = false := by simp; try omega
    go_wp2_with fail
    refine (refFrame_some aa ca ya x5 OKA.out SA.out).mono ?_
    rintro e x6 ⟨v6, rfl, hown6, hb6⟩
    obtain ⟨fa, hfa⟩ : ∃ f, f = frB ya := ⟨_, rfl⟩
    rw [← hfa] at hown6
    have hfal : fa.length = 6 + ya.length := by rw [hfa, frB_length]
    obtain ⟨af, cf, rfl, hsf, -⟩ := Sl.of_owns hown6
    have hfb : ∀ A, af = some A → A.block < x6.heap.size := fun A hA => (hown6.lt A.block (by rw [hA]; rfl)).2
    obtain ⟨nf, hnf⟩ : ∃ n, n = fa.length := ⟨_, rfl⟩
    obtain ⟨kk, hkk⟩ : ∃ k, k = na % nf := ⟨_, rfl⟩
    have hklt : kk < nf := by rw [hkk]; exact Nat.mod_lt _ (by omega)
    have hm0 : na % nf = kk := hkk.symm
    have hm1 : (na : Int) % (nf : Int) = (kk : Int) := by rw [hkk]; rfl
    have hm2 : (na : Int).tmod (nf : Int) = (kk : Int) := by rw [Int.tmod_eq_emod_of_nonneg (by omega)]; exact hm1
    have SF := Lib.hid hsf
    have FB := Lib.hid hfb
    have HFA := Lib.hid hfa
    have HNF := Lib.hid hnf
    have HKL := Lib.hid hklt
    have SB6 := Lib.hid (SB.out.belowAll hb6)
    have B6 := Lib.hid (BW.out.trans (hb6.mono BW.out.size))
    have T6 := Lib.hid (T5.out.turn (Turn.of_below hb6 []) (by simp))
    have hsp := fun wx => slice_front af nf cf kk (by have := hsf.le.1; rw [← hnf] at this; omega) wx
    rw [← hnf] at hfal ⊢
    have hnz : ((nf : Int) == 0) = false := by simp; omega
    have hnz1 : ¬ (nf : Int) = 0 := by omega
    have hnz2 : ¬ nf = 0 := by omega
    have HFAL := Lib.hid (show nf ≤ 47 by omega)
    clear hfal
    clear hown6 hb6 hfa hnf hkk hklt hsf hfb SA SB BW T5
    go_wp2_with fail
    refine (dk_new 5000 x6).mono ?_
    rintro e x7 ⟨rfl, hd7⟩
    rw [show roomOf 5000 = 5000 by decide] at hd7
    obtain ⟨d, hdd⟩ : ∃ d, d = x6.heap.size := ⟨_, rfl⟩
    rw [← hdd] at hd7 ⊢
    have CA := dk_append_off (n := segName 0) hd7 (segName_len 0) (Turn.refl [] x7) ((SF.out.belowAll hd7.1).front kk) (fun A hA => .inl (FB.out A hA))
    have hft : (fa.take kk).length = kk := by rw [List.length_take, ← HNF.out]; have := HKL.out; omega
    rw [hft, (app_first _ (by rw [hft]; have := HKL.out; have := HFAL.out; omega)).1, (app_first _ (by rw [hft]; have := HKL.out; have := HFAL.out; omega)).2, ← name0] at CA
    have HCA := Lib.hid CA
    clear CA hd7 hdd
    go_wp2_with fail
    refine HCA.out.mono ?_
    rintro e x8 ⟨rfl, hd8⟩
    have D8 := Lib.hid hd8
    have SB8 := Lib.hid (SB6.out.belowAll hd8.1)
    clear hd8 HCA SB6 hsp hm0 hm1 hm2 hnz hnz1 hnz2 hd0
    go_wp2_with fail
    refine (refFrame_some ab cb yb x8 OKB.out SB8.out).mono ?_
    rintro e x9 ⟨v9, rfl, hown9, hb9⟩
    obtain ⟨fb, hfb⟩ : ∃ f, f = frB yb := ⟨_, rfl⟩
    rw [← hfb] at hown9
    have hfbl : fb.length = 6 + yb.length := by rw [hfb, frB_length]
    obtain ⟨ag, cg, rfl, hsg, hag⟩ := Sl.of_owns hown9
    have CB := dk_append_off (n := segName 1) D8.out (segName_len 1) (Turn.of_below hb9 []) hsg (fun A hA => .inr (hag A hA))
    have hft : (fa.take kk).length ≤ 47 := by rw [List.length_take]; have := HKL.out; have := HFAL.out; omega
    rw [(app_second _ _ (by omega)).1, (app_second _ _ (by omega)).2, ← name1] at CB
    have HCB := Lib.hid CB
    have HFB := Lib.hid hfb
    have HFT := Lib.hid hft
    have HFBL := Lib.hid (show fb.length ≤ 47 by omega)
    clear hfbl
    clear CB hown9 hsg hag hfb hb9 D8 hft
    go_wp2_with fail
    refine HCB.out.mono ?_
    rintro e x10 ⟨rfl, hd10⟩
    have D10 := Lib.hid hd10
    have htot : tot (twoM (fa.take kk) fb) ≤ 100 := by
      have := HFT.out
      have := HFBL.out
      unfold twoM tot
      simp only [List.map_cons, List.map_nil, List.sum_cons, List.sum_nil]
      omega
    have CO := open_calls hd10 T6.out 0 (by decide) 100 (fun n => Nat.le_trans (bytesOf_le _) (by rw [(twoM_at _ _).2.1]; exact htot)) (by rw [(twoM_at _ _).1]; decide)
    have hres : (openF 5000 (twoM (fa.take kk) fb) 0).1 = if kk = 0 then 0 else 3 := by
      have h1 := HKL.out
      rw [HNF.out] at h1
      rw [HFA.out, HFB.out]
      rw [HFA.out] at h1
      exact two_open OKA.out OKB.out h1 5000
    rw [hres] at CO
    have HCO := Lib.hid CO
    clear CO htot hd10 HCB hres
    have hb3' : 0 ≤ a3 ∧ a3 < 256 := by omega
    have HU3 := Lib.hid (u8_ofNat hb3'.1 hb3'.2)
    clear hb3'
    by_cases hk0 : kk = 0
    · rw [if_pos hk0] at HCO
      have hkz : decide (kk = 0) = true := by simpa using hk0
      have hkz2 : ((kk : Int) == 0) = true := by simp; omega
      have hkz3 : decide ((kk : Int) = 0) = true := by simp; omega
      clear hk0
      go_wp2_with fail
      refine HCO.out.mono ?_
      rintro e x11 ⟨hok, -⟩
      obtain ⟨lb, rfl, hlg⟩ := hok (by trivial)
      have B11 := Lib.hid (B6.out.trans (hlg.1.belowAll.mono B6.out.size))
      have T11 := Lib.hid (T6.out.turn (Turn.of_below hlg.1.belowAll []) (by simp))
      clear hok hlg HCO D10
      go_wp2_with fail
      refine (dk_new 5000 x11).mono ?_
      rintro e x12 ⟨rfl, hd12⟩
      rw [show roomOf 5000 = 5000 by decide] at hd12
      obtain ⟨g, hgg⟩ : ∃ g, g = x11.heap.size := ⟨_, rfl⟩
      rw [← hgg] at hd12 ⊢
      have hl12 := lit_sl x12 [0, 0, UInt8.ofNat a3.toNat] #[.int .u8 0, .int .u8 0, .int .u8 a3] 3 (by simp only [u8s, List.map_cons, List.map_nil]; rw [HU3.out]; rfl) rfl (by omega)
      have CG := dk_append_off (n := segName 0) hd12 (segName_len 0) (Turn.alloc [] x12 (.cells #[.int .u8 0, .int .u8 0, .int .u8 a3] 5 (0, 0))) hl12 (fun A hA => .inr (by cases hA; exact Nat.le_refl _))
      rw [(app_first _ (by simp)).1, (app_first _ (by simp)).2, ← name0] at CG
      have HCG := Lib.hid CG
      clear CG hl12 hd12 hgg
      go_wp2_with fail
      refine HCG.out.mono ?_
      rintro e x13 ⟨rfl, hd13⟩
      have CP := open_calls hd13 T11.out 0 (by decide) 100 (fun n => Nat.le_trans (bytesOf_le _) (by rw [(oneB_at _).2.1]; simp [tot])) (by rw [(oneB_at _).1]; decide)
      rw [bad_open] at CP
      have HCP := Lib.hid CP
      clear CP hd13 HCG
      go_wp2_with fail
      refine HCP.out.mono ?_
      rintro e x14 ⟨-, hno⟩
      obtain ⟨rfl, hlg⟩ := hno (by first | trivial | decide | simp)
      have B14 := Lib.hid (B11.out.trans (hlg.1.mono B11.out.size))
      clear hno hlg HCP
      go_wp2
      go_ret
      exact ⟨rfl, B14.out⟩
    · rw [if_neg hk0] at HCO
      have hkz : decide (kk = 0) = false := by simpa using hk0
      have hkz2 : ((kk : Int) == 0) = false := by simp; omega
      have hkz3 : decide ((kk : Int) = 0) = false := by simp; omega
      clear hk0
      go_wp2_with fail
      refine HCO.out.mono ?_
      rintro e x11 ⟨-, hno⟩
      obtain ⟨rfl, hlg⟩ := hno (by first | trivial | decide | simp)
      have B11 := Lib.hid (B6.out.trans (hlg.1.mono B6.out.size))
      have T11 := Lib.hid (T6.out.turn (Turn.of_below hlg.1 []) (by simp))
      clear hno hlg HCO D10
      go_wp2_with fail
      refine (dk_new 5000 x11).mono ?_
      rintro e x12 ⟨rfl, hd12⟩
      rw [show roomOf 5000 = 5000 by decide] at hd12
      obtain ⟨g, hgg⟩ : ∃ g, g = x11.heap.size := ⟨_, rfl⟩
      rw [← hgg] at hd12 ⊢
      have hl12 := lit_sl x12 [0, 0, UInt8.ofNat a3.toNat] #[.int .u8 0, .int .u8 0, .int .u8 a3] 3 (by simp only [u8s, List.map_cons, List.map_nil]; rw [HU3.out]; rfl) rfl (by omega)
      have CG := dk_append_off (n := segName 0) hd12 (segName_len 0) (Turn.alloc [] x12 (.cells #[.int .u8 0, .int .u8 0, .int .u8 a3] 5 (0, 0))) hl12 (fun A hA => .inr (by cases hA; exact Nat.le_refl _))
      rw [(app_first _ (by simp)).1, (app_first _ (by simp)).2, ← name0] at CG
      have HCG := Lib.hid CG
      clear CG hl12 hd12 hgg
      go_wp2_with fail
      refine HCG.out.mono ?_
      rintro e x13 ⟨rfl, hd13⟩
      have CP := open_calls hd13 T11.out 0 (by decide) 100 (fun n => Nat.le_trans (bytesOf_le _) (by rw [(oneB_at _).2.1]; simp [tot])) (by rw [(oneB_at _).1]; decide)
      rw [bad_open] at CP
      have HCP := Lib.hid CP
      clear CP hd13 HCG
      go_wp2_with fail
      refine HCP.out.mono ?_
      rintro e x14 ⟨-, hno⟩
      obtain ⟨rfl, hlg⟩ := hno (by first | trivial | decide | simp)
      have B14 := Lib.hid (B11.out.trans (hlg.1.mono B11.out.size))
      clear hno hlg HCP
      go_wp2
      go_ret
      exact ⟨rfl, B14.out⟩

end Go.Proofs.YtgachdaphdjddaaGreatDoor
