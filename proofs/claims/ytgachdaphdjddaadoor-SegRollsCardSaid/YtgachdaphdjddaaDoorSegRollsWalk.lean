/-
  The walk of the law SegRolls.
-/
import Derived.Test.YtgachdaphdjddaaDoorBegun4
import Derived.Test.YtgachdaphdjddaaDoorSegPut
import Derived.Test.YtgachdaphdjddaaDoorOpen
namespace Go.Proofs.YtgachdaphdjddaaDoor
open Go.RowKit

theorem mApp_tot {M : List Fm} (n bs : List UInt8) (hnd : (M.map Fm.name).Nodup) : tot (mApp n bs M) = tot M + bs.length := by
  unfold mApp
  by_cases hh : hasF M n = true
  · rw [if_pos hh]
    obtain ⟨A, g, B, rfl, rfl⟩ := hasF_split hh
    rw [mUp_split _ hnd]
    simp only [tot_append, tot_cons, longer, List.length_append]
    omega
  · rw [if_neg hh, tot_append]
    simp [tot]

/-- Append of a new slice, however it goes. -/

theorem bytesOf_cons (f : Fm) (M : List Fm) (m : List UInt8) : bytesOf (f :: M) m = if f.name = m then f.b else bytesOf M m := by
  unfold bytesOf
  rw [List.find?_cons]
  by_cases h : f.name = m
  · simp [h]
  · have : (f.name == m) = false := by simpa using h
    rw [this, if_neg h]

theorem hasF_cons (f : Fm) (M : List Fm) (m : List UInt8) : hasF (f :: M) m = (f.name == m || hasF M m) := rfl

theorem bytesOf_syn (n m : List UInt8) : ∀ M, bytesOf (synM M n) m = bytesOf M m
  | [] => rfl
  | f :: M => by
    have ih := bytesOf_syn n m M
    have e : synM (f :: M) n = (if f.name == n then synced f else f) :: synM M n := rfl
    rw [e, bytesOf_cons, bytesOf_cons, ih]
    by_cases h : f.name = n
    · simp [h, synced]
    · have : (f.name == n) = false := by simpa using h
      rw [this]
      rfl

theorem hasF_syn (n m : List UInt8) : ∀ M, hasF (synM M n) m = hasF M m
  | [] => rfl
  | f :: M => by
    have ih := hasF_syn n m M
    have e : synM (f :: M) n = (if f.name == n then synced f else f) :: synM M n := rfl
    rw [e, hasF_cons, hasF_cons, ih]
    by_cases h : f.name = n
    · simp [h, synced]
    · have : (f.name == n) = false := by simpa using h
      rw [this]
      rfl

theorem tot_syn (n : List UInt8) : ∀ M, tot (synM M n) = tot M
  | [] => rfl
  | f :: M => by
    have ih := tot_syn n M
    have e : synM (f :: M) n = (if f.name == n then synced f else f) :: synM M n := rfl
    rw [e, tot_cons, tot_cons, ih]
    by_cases h : f.name = n
    · simp [h, synced]
    · have : (f.name == n) = false := by simpa using h
      rw [this]
      rfl

theorem names_syn (n : List UInt8) : ∀ M, (synM M n).map Fm.name = M.map Fm.name
  | [] => rfl
  | f :: M => by
    have ih := names_syn n M
    have e : synM (f :: M) n = (if f.name == n then synced f else f) :: synM M n := rfl
    rw [e, List.map_cons, List.map_cons, ih]
    by_cases h : f.name = n
    · simp [h, synced]
    · have : (f.name == n) = false := by simpa using h
      rw [this]
      rfl

theorem bytesOf_longer (n bs m : List UInt8) : ∀ M, bytesOf (mUp n (fun f => longer f bs) M) m = if m = n ∧ hasF M n = true then bytesOf M n ++ bs else bytesOf M m
  | [] => by simp [mUp, bytesOf, hasF]
  | f :: M => by
    have ih := bytesOf_longer n bs m M
    have e : mUp n (fun f => longer f bs) (f :: M) = (if f.name == n then longer f bs else f) :: mUp n (fun f => longer f bs) M := rfl
    rw [e, bytesOf_cons, ih, hasF_cons, bytesOf_cons, bytesOf_cons]
    by_cases h : f.name = n
    · subst h
      by_cases hm : f.name = m
      · simp [hm, longer]
      · have : ¬ m = f.name := fun e => hm e.symm
        simp [hm, this, longer]
    · have hb : (f.name == n) = false := by simpa using h
      rw [hb]
      by_cases hm : m = n
      · subst hm
        simp [h]
      · simp [hm]

theorem hasF_longer (n bs m : List UInt8) : ∀ M, hasF (mUp n (fun f => longer f bs) M) m = hasF M m
  | [] => rfl
  | f :: M => by
    have ih := hasF_longer n bs m M
    have e : mUp n (fun f => longer f bs) (f :: M) = (if f.name == n then longer f bs else f) :: mUp n (fun f => longer f bs) M := rfl
    rw [e, hasF_cons, hasF_cons, ih]
    by_cases h : f.name = n
    · simp [h, longer]
    · have : (f.name == n) = false := by simpa using h
      rw [this]
      rfl

theorem bytesOf_last (f : Fm) (m : List UInt8) : ∀ M, bytesOf (M ++ [f]) m = if hasF M m = true then bytesOf M m else if f.name = m then f.b else []
  | [] => by
    rw [List.nil_append, bytesOf_cons]
    simp [hasF, bytesOf]
  | g :: M => by
    have ih := bytesOf_last f m M
    rw [List.cons_append, bytesOf_cons, ih, bytesOf_cons, hasF_cons]
    by_cases h : g.name = m
    · simp [h]
    · have : (g.name == m) = false := by simpa using h
      simp [h]

theorem hasF_last (f : Fm) (m : List UInt8) (M : List Fm) : hasF (M ++ [f]) m = (hasF M m || f.name == m) := by
  unfold hasF
  rw [List.any_append]
  simp

theorem bytesOf_app (n bs m : List UInt8) (M : List Fm) : bytesOf (mApp n bs M) m = if m = n then bytesOf M n ++ bs else bytesOf M m := by
  unfold mApp
  by_cases h : hasF M n = true
  · rw [if_pos h, bytesOf_longer]
    simp [h]
  · have h' : hasF M n = false := by simpa using h
    rw [if_neg h, bytesOf_last]
    by_cases hm : m = n
    · subst hm
      rw [if_neg h, if_pos rfl, if_pos rfl, bytesOf_not h']
      rfl
    · rw [if_neg hm]
      by_cases h2 : hasF M m = true
      · rw [if_pos h2]
      · rw [if_neg h2, if_neg (fun e => hm e.symm), bytesOf_not (by simpa using h2)]

theorem hasF_app (n bs m : List UInt8) (M : List Fm) : hasF (mApp n bs M) m = (hasF M m || n == m) := by
  unfold mApp
  by_cases h : hasF M n = true
  · rw [if_pos h, hasF_longer]
    by_cases hm : n = m
    · subst hm; simp [h]
    · simp [hm]
  · rw [if_neg h, hasF_last]

theorem ok_seg : ∀ n, n < 40 → okName (segName n) = true := by decide

/-- The last segment's size; there is none behind it. -/
def Rl (M : List Fm) (at_ sz : Nat) : Prop := (bytesOf M (segName at_)).length = sz ∧ (hasF M (segName at_) = true ∨ sz = 0) ∧ ∀ j, at_ < j → j ≤ 999 → hasF M (segName j) = false

theorem rl_stay {M : List Fm} {a sz : Nat} (h : Rl M a sz) (ha : a ≤ 900) (fr : List UInt8) : Rl (mApp (segName a) fr M) a (sz + fr.length) ∧ hasF (mApp (segName a) fr M) (segName a) = true := by
  obtain ⟨h1, h2, h3⟩ := h
  have hh : hasF (mApp (segName a) fr M) (segName a) = true := by rw [hasF_app]; simp
  refine ⟨⟨by rw [bytesOf_app, if_pos rfl, List.length_append, h1], .inl hh, fun j hj hj9 => ?_⟩, hh⟩
  rw [hasF_app, h3 j hj hj9]
  have : ¬ segName a = segName j := fun e => by have := segName_inj (by omega) hj9 e; omega
  simpa using this

theorem rl_roll {M : List Fm} {a sz : Nat} (h : Rl M a sz) (ha : a ≤ 900) (fr : List UInt8) :
    Rl (mApp (segName (a + 1)) fr (synM M (segName a))) (a + 1) fr.length ∧ hasF (mApp (segName (a + 1)) fr (synM M (segName a))) (segName (a + 1)) = true ∧
      (bytesOf (mApp (segName (a + 1)) fr (synM M (segName a))) (segName a)).length = sz ∧ hasF (mApp (segName (a + 1)) fr (synM M (segName a))) (segName a) = hasF M (segName a) ∧
      ∀ f ∈ mApp (segName (a + 1)) fr (synM M (segName a)), f.name = segName a → f.sure = f.b.length := by
  obtain ⟨h1, h2, h3⟩ := h
  have hne : ¬ segName a = segName (a + 1) := fun e => by have := segName_inj (by omega) (by omega) e; omega
  have hno : hasF (synM M (segName a)) (segName (a + 1)) = false := by rw [hasF_syn]; exact h3 (a + 1) (by omega) (by omega)
  have hh : hasF (mApp (segName (a + 1)) fr (synM M (segName a))) (segName (a + 1)) = true := by rw [hasF_app]; simp
  refine ⟨⟨by rw [bytesOf_app, if_pos rfl, bytesOf_not hno]; rfl, .inl hh, fun j hj hj9 => ?_⟩, hh, by rw [bytesOf_app, if_neg hne, bytesOf_syn, h1], ?_, ?_⟩
  · rw [hasF_app, hasF_syn, h3 j (by omega) hj9]
    have : ¬ segName (a + 1) = segName j := fun e => by have := segName_inj (by omega) hj9 e; omega
    simpa using this
  · rw [hasF_app, hasF_syn]
    have : ¬ segName (a + 1) = segName a := fun e => hne e.symm
    simp [this]
  · intro f hf hn
    unfold mApp at hf
    rw [if_neg (by rw [hno]; simp)] at hf
    rcases List.mem_append.1 hf with hf | hf
    · obtain ⟨g, hg, he⟩ := List.mem_map.1 hf
      by_cases hgn : g.name = segName a
      · rw [if_pos (by simpa using hgn)] at he
        rw [← he]
        rfl
      · rw [if_neg (by simpa using hgn)] at he
        rw [he] at hgn
        exact absurd hn hgn
    · simp only [List.mem_singleton] at hf
      rw [hf] at hn
      exact absurd hn (fun e => hne e.symm)

set_option maxHeartbeats 8000000 in
set_option maxRecDepth 100000 in
theorem segRolls_walk (a0 : Option Addr) (cap0 : Nat) (l0 : List Int) (w : World) (w0 : Il w a0 cap0 l0) (htab : Tab w) :
    Calls Tryd.prog 4 #[.slice a0 l0.length cap0] w fun e w' => e = .returned (.bool true) ∧ Below w.heap.size w w' := by
  have hlen : (l0.length : Int) ≤ 9223372036854775807 := by
    rcases id w0 with ⟨_, _, rfl⟩ | ⟨A, _, q1, q2, _⟩
    · simp
    · unfold maxLen at q2; omega
  have H0 := Lib.hid w0
  have HTB := Lib.hid htab
  clear w0 htab
  go_enter Tryd.func4, Tryd.ntmps4
  go_wp2_with fail
  refine (begun4_calls _ HTB.out).mono ?_
  rintro e x1 ⟨rfl, hb1⟩
  have B1 := Lib.hid hb1
  have T1 := Lib.hid (HTB.out.turn (Turn.of_below hb1 []) (by simp))
  clear hb1
  go_wp2_with fail
  refine (dk_new 1048576 x1).mono ?_
  rintro e x2 ⟨rfl, hd⟩
  rw [room_big] at hd
  have D2 := Lib.hid hd
  obtain ⟨d, hdd⟩ : ∃ d, d = x1.heap.size := ⟨_, rfl⟩
  rw [← hdd] at D2 ⊢
  clear hd hdd
  go_wp2_with fail
  refine (open_calls D2.out T1.out 0 (by decide) 0 (fun n => by simp [mDel, bytesOf]) (by simp)).mono ?_
  rintro e x3 ⟨hok, -⟩
  obtain ⟨lb, rfl, hl3⟩ := hok (by rw [open_first.1])
  rw [open_first.1, open_first.2] at hl3
  have L3 := Lib.hid (show Lg [] x1 x3 lb d rBig 0 [] [] from hl3)
  clear hl3 hok D2
  go_wp2_with fail
  go_loopw [7, 8, 9] (fun av zv i wr => ∃ (k a sz : Nat) (T : List (List UInt8)) (M : List Fm), k ≤ l0.length ∧ k ≤ 20 ∧ i = .int .i64 k ∧ av = .int .i64 a ∧ zv = .int .i64 sz ∧ a ≤ k ∧ Lg [] x1 wr lb d rBig a T M ∧ T.length ≤ k ∧ Rl M a sz ∧ tot M ≤ 906 * k ∧ sz ≤ 906 * k) (fun _ _ i _ => 20 - (intOf i).toNat)
  case atStart => exact ⟨0, 0, 0, [], [], by omega, by omega, rfl, rfl, rfl, by omega, L3.out, by simp, ⟨rfl, .inr rfl, fun _ _ _ => rfl⟩, by simp [tot], by omega⟩
  case round =>
    clear L3
    obtain ⟨k, a, sz, T, M, hk, hk20, rfl, rfl, rfl, hak, hL, hT, hrl, htot, hsz⟩ := hrel
    have L3 := Lib.hid hL
    have RL := Lib.hid hrl
    have HTOT := Lib.hid htot
    have HSZ := Lib.hid hsz
    have ND : Hid ((M.map Fm.name).Nodup) := Lib.hid (by obtain ⟨-, l, h2, -⟩ := hL.dk; exact h2.nodup)
    clear hL hrl htot hsz
    by_cases hlt : k < l0.length ∧ k < 20
    · obtain ⟨hl, h20⟩ := hlt
      obtain ⟨ob, off, ha0, hob, hop⟩ := H0.out.at (by intro e; rw [e] at hl; simp at hl)
      subst ha0
      have hz := ((L3.out.1.belowAll.cell (p := ⟨ob, off + k, none⟩) (by show ob < _; have := B1.out.size; omega)).trans (B1.out.cell (p := ⟨ob, off + k, none⟩) hob)).trans (hop k hl)
      clear hop
      generalize l0.getD k 0 = z at hz
      have ht1 : -900 < z.tmod 900 := Int.lt_tmod_of_pos z (by decide)
      have ht2 : z.tmod 900 < 900 := Int.tmod_lt_of_pos z (by decide)
      obtain ⟨t, ht⟩ : ∃ t, z.tmod 900 = t := ⟨_, rfl⟩
      rw [ht] at ht1 ht2
      obtain ⟨kk, hkk⟩ : ∃ kk : Nat, 1 + t % 900 = (kk : Int) := ⟨(1 + t % 900).toNat, by omega⟩
      have hk900 : 1 ≤ kk ∧ kk ≤ 900 := by omega
      have hmk := fun wx => make_bytes wx kk (by omega)
      have hd20 : decide ((k : Int) < 20) = true := by simp; omega
      obtain ⟨fr, hfr⟩ : ∃ fr, fr = frB (List.replicate kk 0) := ⟨_, rfl⟩
      have hfrl : fr.length = 6 + kk := by rw [hfr, frB_length, List.length_replicate]
      have HFRL := Lib.hid hfrl
      by_cases hr : 2000 ≤ sz
      · have hge : decide ((2000 : Int) ≤ (sz : Int)) = true := by simp; omega
        have hto : addTo M a = a + 1 ∧ addM M a = synM M (segName a) := by
          unfold addTo addM
          rw [RL.out.1, if_pos hr, if_pos hr]
          exact ⟨rfl, rfl⟩
        obtain ⟨M', hM'⟩ : ∃ M', M' = mApp (segName (a + 1)) fr (synM M (segName a)) := ⟨_, rfl⟩
        have happ : appE rBig (synM M (segName a)) (segName (a + 1)) fr = 0 ∧ appM rBig (synM M (segName a)) (segName (a + 1)) fr = M' := by
          have h1 := HTOT.out
          have hok := ok_seg (a + 1) (by omega)
          unfold appE appM
          rw [if_pos hok, if_pos hok, tot_syn, hfrl, if_neg (by unfold rBig; omega), if_neg (by unfold rBig; omega), hM']
          exact ⟨rfl, rfl⟩
        have C := add_at L3.out (Turn.alloc [] wr (.cells (madeCells #[.int .u8 0] kk) 5)) (some ⟨wr.heap.size, 0, none⟩) kk (List.replicate kk 0) (by simp [okF]; omega) (made_sl wr kk (by omega)) (fun A hA => .inr (by cases hA; exact Nat.le_refl _)) (by rw [hto.1]; omega) (by omega)
        rw [hto.1, hto.2, ← hfr, happ.1, happ.2, List.length_replicate] at C
        have HC := Lib.hid C
        obtain ⟨hrl', hhas', hold, hhold, hsure⟩ := rl_roll RL.out (by omega) fr
        rw [← hM'] at hrl' hhas' hold hhold hsure
        rw [hfrl] at hrl'
        have htt : tot M' ≤ 906 * (k + 1) := by
          rw [hM', mApp_tot _ _ (by rw [names_syn]; exact ND.out), tot_syn, hfrl]
          have := HTOT.out
          omega
        have hhas0 : hasF M (segName a) = true := by
          rcases RL.out.2.1 with h | h
          · exact h
          · omega
        rw [hhas0] at hhold
        have HRL := Lib.hid hrl'
        have HHAS := Lib.hid hhas'
        have HOLD := Lib.hid hold
        have HHOLD := Lib.hid hhold
        have HSURE := Lib.hid hsure
        have HTT := Lib.hid htt
        clear C hrl' hhas' hold hhold hsure htt hhas0 happ hto hM' hfr hfrl
        go_wp2_with fail
        refine HC.out.mono ?_
        rintro e x4 ⟨rfl, hl4, -⟩
        have L4 := Lib.hid (hl4 (by trivial))
        clear hl4 HC hmk
        go_wp2_with fail
        refine (name_calls a (by omega) _ L4.out.tab).mono ?_
        rintro e x5 ⟨rfl, hb5⟩
        have L5 := Lib.hid (L4.out.below hb5)
        clear hb5 L4
        go_wp2_with fail
        refine (lg_read L5.out (segName_len a)).mono ?_
        rintro e x6 ⟨ar, cr, rfl, -, -, hl6, -⟩
        have L6 := Lib.hid hl6
        clear hl6 L5
        rw [HOLD.out, HHOLD.out]
        go_wp2_with fail
        refine (name_calls a (by omega) _ L6.out.tab).mono ?_
        rintro e x7 ⟨rfl, hb7⟩
        have L7 := Lib.hid (L6.out.below hb7)
        clear hb7 L6
        obtain ⟨A, f, B, hsplit, hfn⟩ := hasF_split HHOLD.out
        have hnd' : (M'.map Fm.name).Nodup := by obtain ⟨-, l, h2, -⟩ := L7.out.dk; exact h2.nodup
        have hfs : f.sure = sz := by
          have h1 := HSURE.out f (by rw [hsplit]; simp) hfn
          have h2 := HOLD.out
          rw [hsplit] at h2 hnd'
          rw [← hfn, bytesOf_split hnd'] at h2
          omega
        have CS := dk_sure (M1 := A) (M2 := B) (f := f) (by rw [← hsplit]; exact L7.out.dk)
        rw [hfn, hfs] at CS
        have HCS := Lib.hid CS
        clear CS hsplit hfn hnd' hfs
        go_wp2_with fail
        refine HCS.out.mono ?_
        rintro e w' ⟨rfl, rfl⟩
        go_wp2_with fail
        refine (at_calls L7.out).mono ?_
        rintro e w' ⟨rfl, rfl⟩
        go_wp2_with fail
        refine (name_calls (a + 1) (by omega) _ L7.out.tab).mono ?_
        rintro e x8 ⟨rfl, hb8⟩
        have L8 := Lib.hid (L7.out.below hb8)
        clear hb8 L7
        go_wp2_with fail
        refine (lg_read L8.out (segName_len (a + 1))).mono ?_
        rintro e x9 ⟨ar, cr, rfl, -, -, hl9, -⟩
        have L9 := Lib.hid hl9
        clear hl9 L8
        rw [HRL.out.1, HHAS.out]
        go_wp2
        go_roundw
        case rel => exact ⟨k + 1, (a + 1), (6 + kk), _, _, by omega, by omega, by go_num, by go_num, by go_num, by omega, L9.out, by simp; omega, HRL.out, HTT.out, by have := HSZ.out; omega⟩
        case measure => simp [intOf]; omega
      · have hge : decide ((2000 : Int) ≤ (sz : Int)) = false := by simp; omega
        have hto : addTo M a = a ∧ addM M a = M := by
          unfold addTo addM
          rw [RL.out.1, if_neg hr, if_neg hr]
          exact ⟨rfl, rfl⟩
        obtain ⟨M', hM'⟩ : ∃ M', M' = mApp (segName a) fr M := ⟨_, rfl⟩
        have happ : appE rBig M (segName a) fr = 0 ∧ appM rBig M (segName a) fr = M' := by
          have h1 := HTOT.out
          have hok := ok_seg a (by omega)
          unfold appE appM
          rw [if_pos hok, if_pos hok, hfrl, if_neg (by unfold rBig; omega), if_neg (by unfold rBig; omega), hM']
          exact ⟨rfl, rfl⟩
        have C := add_at L3.out (Turn.alloc [] wr (.cells (madeCells #[.int .u8 0] kk) 5)) (some ⟨wr.heap.size, 0, none⟩) kk (List.replicate kk 0) (by simp [okF]; omega) (made_sl wr kk (by omega)) (fun A hA => .inr (by cases hA; exact Nat.le_refl _)) (by rw [hto.1]; omega) (by omega)
        rw [hto.1, hto.2, ← hfr, happ.1, happ.2, List.length_replicate] at C
        have HC := Lib.hid C
        obtain ⟨hrl', hhas'⟩ := rl_stay RL.out (by omega) fr
        rw [← hM'] at hrl' hhas'
        rw [hfrl] at hrl'
        have htt : tot M' ≤ 906 * (k + 1) := by
          rw [hM', mApp_tot _ _ ND.out, hfrl]
          have := HTOT.out
          omega
        have HRL := Lib.hid hrl'
        have HHAS := Lib.hid hhas'
        have HTT := Lib.hid htt
        clear C hrl' hhas' htt happ hto hM' hfr hfrl
        go_wp2_with fail
        refine HC.out.mono ?_
        rintro e x4 ⟨rfl, hl4, -⟩
        have L7 := Lib.hid (hl4 (by trivial))
        clear hl4 HC hmk
        go_wp2_with fail
        refine (at_calls L7.out).mono ?_
        rintro e w' ⟨rfl, rfl⟩
        go_wp2_with fail
        refine (name_calls a (by omega) _ L7.out.tab).mono ?_
        rintro e x8 ⟨rfl, hb8⟩
        have L8 := Lib.hid (L7.out.below hb8)
        clear hb8 L7
        go_wp2_with fail
        refine (lg_read L8.out (segName_len a)).mono ?_
        rintro e x9 ⟨ar, cr, rfl, -, -, hl9, -⟩
        have L9 := Lib.hid hl9
        clear hl9 L8
        rw [HRL.out.1, HHAS.out]
        go_wp2
        go_roundw
        case rel => exact ⟨k + 1, a, (sz + (6 + kk)), _, _, by omega, by omega, by go_num, by go_num, by go_num, by omega, L9.out, by simp; omega, HRL.out, HTT.out, by have := HSZ.out; omega⟩
        case measure => simp [intOf]; omega
    · by_cases hl : k < l0.length
      · have hd20 : decide ((k : Int) < 20) = false := by simp; omega
        go_wp2
        go_ret
        exact ⟨rfl, B1.out.trans (L3.out.1.belowAll.mono B1.out.size)⟩
      · go_wp2
        go_ret
        exact ⟨rfl, B1.out.trans (L3.out.1.belowAll.mono B1.out.size)⟩

end Go.Proofs.YtgachdaphdjddaaDoor
