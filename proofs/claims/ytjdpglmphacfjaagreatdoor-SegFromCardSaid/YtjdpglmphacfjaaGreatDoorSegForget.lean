/-
  Forget's walk; what is left on the disk then; Open of a disk beside which other things of the call's own lie.
-/
import Derived.Test.YtjdpglmphacfjaaGreatDoorSegMore
namespace Go.Proofs.YtjdpglmphacfjaaGreatDoor
open Go.RowKit

def forgM : Nat → List Fm → List Fm
  | 0, M => M
  | k + 1, M => mDel (segName k) (forgM k M)

set_option maxHeartbeats 2000000 in
set_option maxRecDepth 100000 in
theorem forget_calls {L : List Nat} {wq w : World} {lb d room num : Nat} {T : List (List UInt8)} {M : List Fm} (h : Lg L wq w lb d room num T M) (n : Nat) (hn : n ≤ 999) :
    Calls Tryz.prog 14 #[.pointer (some ⟨lb, 0, none⟩), .int .i64 (n : Int)] w fun e w' => e = .returned (.int .i64 0) ∧ Lg L wq w' lb d room num T (forgM n M) := by
  have hm1 : min (n : Int) 1000 = (n : Int) := by omega
  have H := Lib.hid h
  clear h
  go_enter Tryz.func14, Tryz.ntmps14
  go_wp2_with fail
  go_loopw [11] (fun v wr => ∃ k : Nat, k ≤ n ∧ v = .int .i64 (k : Int) ∧ Lg L wq wr lb d room num T (forgM k M)) (fun v _ => n - (intOf v).toNat)
  case atStart => exact ⟨0, by omega, rfl, H.out⟩
  case round =>
    clear H
    obtain ⟨k, hk, rfl, hl⟩ := hrel
    have HL := Lib.hid hl
    obtain ⟨c0, -, -, -⟩ := hl.head
    clear hl
    by_cases hlt : k < n
    · have r2 : (k : Int) < (n : Int) := by omega
      go_upto_region 6 with fail
      go_region_held3 (fun w' => w'.cell? ⟨lb, 0, none⟩ = some (.pointer (some ⟨d, 0, none⟩)))
        (go_keep)
        (first
          | (go_at_call 25; ((with_reducible refine (lg_name (HL.out.turn (Turn.drew [] wr)) (by omega)).mono ?_); rintro e w1 ⟨rfl, h1⟩); obtain ⟨q0, -, -, -⟩ := h1.head; have H1 := Lib.hid h1; clear h1)
          | (go_at_call 28; ((with_reducible refine (lg_delete H1.out (segName_len k)).mono ?_); rintro e w2 ⟨rfl, h2⟩); obtain ⟨q2, -, -, -⟩ := h2.head; have H2 := Lib.hid h2; clear h2)
          | (go_at_call 27; ((with_reducible refine (unlessNone_calls _ _).mono ?_); rintro e w3 ⟨rfl, rfl⟩)))
      rw [unless6_syn]
      go_wp2
      go_roundw
      case rel => exact ⟨k + 1, by omega, by go_num, H2.out⟩
      case measure => simp [intOf]; omega
    · obtain rfl : k = n := by omega
      have r3 : ¬ (k : Int) < (k : Int) := by omega
      go_wp2
      go_ret
      exact ⟨rfl, HL.out⟩

theorem bytesOf_del (n m : List UInt8) : ∀ M, bytesOf (mDel n M) m = if m = n then [] else bytesOf M m
  | [] => by simp [mDel, bytesOf]
  | f :: M => by
    have ih := bytesOf_del n m M
    by_cases h : f.name = n
    · have e : mDel n (f :: M) = mDel n M := by simp [mDel, h]
      rw [e, ih, bytesOf_cons]
      by_cases hm : m = n
      · rw [if_pos hm, if_pos hm]
      · rw [if_neg hm, if_neg hm, if_neg (fun e => hm (by rw [← e, h]))]
    · have e : mDel n (f :: M) = f :: mDel n M := by simp [mDel, h]
      rw [e, bytesOf_cons, ih, bytesOf_cons]
      by_cases hm : m = n
      · rw [if_pos hm, if_pos hm, if_neg (fun e => h (by rw [e, hm]))]
      · rw [if_neg hm, if_neg hm]

theorem hasF_del (n m : List UInt8) {M : List Fm} (h : hasF M m = false) : hasF (mDel n M) m = false := by
  unfold hasF at h ⊢
  rw [List.any_eq_false] at h ⊢
  intro f hf
  exact h f (List.mem_filter.1 hf).1

theorem Sg.del1 {M : List Fm} {a : Nat} {S : Nat → List (List UInt8)} (h : Sg M a S) {k : Nat} (hk : k ≤ 999) : Sg (mDel (segName k) M) a (fun j => if j = k then [] else S j) := by
  refine ⟨fun j hj => ?_, fun j h1 h2 => hasF_del _ _ (h.none j h1 h2), fun j t ht => ?_, fun j hj => ?_, fun f hf => h.names f (List.mem_filter.1 hf).1, fun f hf => h.sure f (List.mem_filter.1 hf).1⟩
  · rw [bytesOf_del]
    by_cases hjk : j = k
    · rw [if_pos (by rw [hjk]), if_pos hjk, frs_nil]
    · rw [if_neg (fun e => hjk (segName_inj hj hk e)), if_neg hjk, h.bytes j hj]
  · split at ht
    · simp at ht
    · exact h.ok j t ht
  · split
    · rfl
    · exact h.off j hj

theorem Sg.forget {M : List Fm} {a : Nat} {S : Nat → List (List UInt8)} (h : Sg M a S) (ha : a ≤ 999) : ∀ n, n ≤ a → Sg (forgM n M) a (fun j => if j < n then [] else S j) ∧ ∀ f ∈ forgM n M, ∃ j, n ≤ j ∧ j ≤ a ∧ f.name = segName j
  | 0, _ => ⟨by simpa [forgM] using h, fun f hf => by obtain ⟨j, h1, h2⟩ := h.names f hf; exact ⟨j, Nat.zero_le _, h1, h2⟩⟩
  | n + 1, hn => by
    obtain ⟨h1, h2⟩ := h.forget ha n (by omega)
    have h3 := h1.del1 (k := n) (by omega)
    have e : (fun j => if j = n then [] else if j < n then [] else S j) = (fun j => if j < n + 1 then [] else S j) := by
      funext j
      by_cases hj : j = n
      · rw [if_pos hj, if_pos (by omega)]
      · by_cases hj2 : j < n
        · rw [if_neg hj, if_pos hj2, if_pos (by omega)]
        · rw [if_neg hj, if_neg hj2, if_neg (by omega)]
    rw [e] at h3
    refine ⟨h3, fun f hf => ?_⟩
    have hm := List.mem_filter.1 hf
    obtain ⟨j, h4, h5, h6⟩ := h2 f hm.1
    have hne : j ≠ n := fun e2 => by
      have := hm.2
      rw [h6, e2] at this
      simp at this
    exact ⟨j, by omega, h5, h6⟩

theorem Sg.forget_cat {S : Nat → List (List UInt8)} (n k : Nat) : catS (fun j => if j < n then [] else S j) n k = catS S n k :=
  catS_eq k n (fun j h1 _ => by rw [if_neg (by omega)])

theorem tot_del (n : List UInt8) : ∀ M, tot (mDel n M) ≤ tot M
  | [] => Nat.le_refl _
  | f :: M => by
    have ih := tot_del n M
    by_cases h : f.name = n
    · have e : mDel n (f :: M) = mDel n M := by simp [mDel, h]
      rw [e, tot_cons]
      omega
    · have e : mDel n (f :: M) = f :: mDel n M := by simp [mDel, h]
      rw [e, tot_cons, tot_cons]
      omega

theorem tot_forg (M : List Fm) : ∀ n, tot (forgM n M) ≤ tot M
  | 0 => Nat.le_refl _
  | n + 1 => Nat.le_trans (tot_del _ _) (tot_forg M n)

theorem names_len {w : World} {b room : Nat} {l : List Nat} {M : List Fm} (h : DiskM w b room l M) (hfew : M.length ≤ 8000000000000) :
    Calls Tryz.prog 17 #[.pointer (some ⟨b, 0, none⟩)] w fun e w' => ∃ ao c, e = .returned (.slice ao M.length c) ∧ Below w.heap.size w w' := by
  refine (names_calls w h hfew).mono ?_
  rintro e w' ⟨v, ss, rfl, hp, hrow, hb⟩
  have hl : ss.length = M.length := by rw [hp.length_eq]; simp
  rcases hrow.2 with ⟨rfl, h⟩ | ⟨g, cap, cur, rfl, _⟩
  · exact ⟨none, 0, by rw [← hl, h], hb⟩
  · exact ⟨_, cap, by rw [hl], hb⟩

/-- The number of the last segment, of a log's cell alone. -/
theorem at_cell {w : World} {lb num : Nat} (c1 : w.cell? ⟨lb, 1, none⟩ = some (.int .i64 (num : Int))) :
    Calls Tryz.prog 11 #[.pointer (some ⟨lb, 0, none⟩)] w fun e w' => e = .returned (.int .i64 (num : Int)) ∧ w = w' := by
  go_enter Tryz.func11, Tryz.ntmps11
  go_wp2
  go_ret
  exact ⟨rfl, rfl⟩

/-- Reading alone asks for no world to stand on. -/
theorem dk_bare {w : World} {d room : Nat} {l : List Nat} {M : List Fm} (h : DiskM w d room l M) : ∃ w0 : World, Dk w0 w d room M :=
  ⟨{ w with heap := #[] }, ⟨rfl, rfl, rfl, by simp, fun k hk => by simp at hk⟩, l, h, fun i _ => by simp⟩

set_option maxHeartbeats 4000000 in
set_option maxRecDepth 100000 in
/-- Open, where the disk's blocks alone turn. -/
theorem open_at {w : World} {d room : Nat} {ld : List Nat} {M : List Fm} (h : DiskM w d room ld M) (ht : Tab w) (htb : tabB ∉ ld) (lo : Nat) (hlo : lo ≤ 999) (B : Nat) (hB : ∀ n, (bytesOf (mDel newName M) (segName n)).length ≤ B) (hBB : (openAt M lo + 1 - lo) * B ≤ 900000)
    (hz : (openF room M lo).1 = 0) :
    Calls Tryz.prog 9 #[.pointer (some ⟨d, 0, none⟩), .int .i64 (lo : Int)] w fun e w' =>
      ∃ lb, e = .returned (.tuple #[.pointer (some ⟨lb, 0, none⟩), .int .i64 0]) ∧ Lg ld w w' lb d room (openAt M lo) (openF room M lo).2.1 (openF room M lo).2.2 := by
  have CM := mayNumber_calls (lo : Int) w
  rw [show (decide (0 ≤ (lo : Int)) && decide ((lo : Int) ≤ 999)) = true by simp; omega] at CM
  have HM := Lib.hid CM
  have CD := Lib.hid (delete_fn (n := newName) w h newName_len)
  have HLD := Lib.hid h.lt
  obtain ⟨num, hnum⟩ : ∃ num, num = openAt M lo := ⟨_, rfl⟩
  obtain ⟨r, hr⟩ : ∃ r, r = openF room M lo := ⟨_, rfl⟩
  rw [← hnum, ← hr]
  rw [← hnum] at hBB
  rw [← hr] at hz
  obtain ⟨M1, hM1⟩ : ∃ M1, M1 = mDel newName M := ⟨_, rfl⟩
  have hn2 : num = lastOn M1 lo := by rw [hnum, hM1]; rfl
  have hr2 : r = openGo room num (num + 1 - lo) lo [] M1 := by rw [hr, hnum, hM1]; rfl
  have hnl : lo ≤ num ∧ num ≤ 999 := by
    rw [hn2]
    have h1 := lastK_ge M1 lo (999 - lo)
    have h2 := lastK_le M1 lo (999 - lo)
    unfold lastOn
    omega
  rw [← hM1] at hB
  have HZ := Lib.hid hz
  have HN2 := Lib.hid hn2
  have HR2 := Lib.hid hr2
  have HMM := Lib.hid hM1
  have HTQ := Lib.hid ht
  have HTL := Lib.hid htb
  have HBN := Lib.hid hB
  have HBB := Lib.hid hBB
  have hus := unless6_syn M newName
  have HUS := Lib.hid hus
  clear CM h hnum hr hM1 hn2 hr2 ht htb hB hBB hus hz
  go_enter Tryz.func9, Tryz.ntmps9
  go_wp2_with fail
  refine HM.out.mono ?_
  rintro e w' ⟨rfl, rfl⟩
  go_wp2_with fail
  refine CD.out.mono ?_
  rintro e w1 ⟨rfl, ht1, l1, hd1, hl1⟩
  rw [← HMM.out] at hd1
  have HT1 := Lib.hid ht1
  have HD1 := Lib.hid hd1
  have HL1 := Lib.hid hl1
  clear ht1 hd1 hl1 CD
  go_wp2_with fail
  refine (unlessNone_calls _ _).mono ?_
  rintro e w' ⟨rfl, rfl⟩
  rw [HUS.out]
  obtain ⟨wb, hbare⟩ := dk_bare HD1.out
  have CLO := Lib.hid (lastOnDisk_calls hbare (HTQ.out.turn HT1.out HTL.out) lo hlo)
  clear hbare
  go_wp2_with fail
  refine CLO.out.mono ?_
  rintro e w2 ⟨rfl, hb2⟩
  rw [← HN2.out]
  have HT2 := Lib.hid (HT1.out.trans (Turn.of_below hb2 ld) (fun i hi => .inl hi))
  have HD2 := Lib.hid (HD1.out.belowAll hb2)
  clear hb2 HD1 HT1 CLO
  go_wp2_with fail
  have hL : Lg ld w (w2.alloc (.cells #[.pointer (some ⟨d, 0, none⟩), .int .i64 (num : Int), .slice none 0 0] 61)) w2.heap.size d room num [] M1 := by
    have t := Turn.alloc ld w2 (.cells #[.pointer (some ⟨d, 0, none⟩), .int .i64 (num : Int), .slice none 0 0] 61)
    refine ⟨HT2.out.trans t (fun i hi => .inl hi), ⟨HTQ.out, HTL.out⟩, .inr HT2.out.size, hnl.2, by simp, _, l1, heap_alloc_new w2 _, HD2.out.turn (Turn.alloc [] w2 _) (by simp), fun i hi => ⟨.inl (HL1.out i hi), ?_⟩, Txs.nil _ _⟩
    have := HD2.out.lt i hi
    omega
  have HLG := Lib.hid hL
  clear hL HD2 HM HT2
  generalize w2.alloc _ = w3 at HLG ⊢
  generalize w2.heap.size = lb at HLG ⊢
  go_loopw [8] (fun v8 wr => ∃ (k : Nat) (T : List (List UInt8)) (M' : List Fm), v8 = .int .i64 ((lo + k : Nat) : Int) ∧ lo + k ≤ num + 1 ∧ Lg ld w wr lb d room num T M' ∧ openGo room num (num + 1 - (lo + k)) (lo + k) T M' = r ∧ (lo + k ≤ num → M' = M1) ∧ T.length ≤ k * B) (fun v8 _ => num + 1 - (intOf v8).toNat)
  case atStart => exact ⟨0, [], M1, rfl, by omega, HLG.out, HR2.out.symm, fun _ => rfl, by simp⟩
  case round =>
    clear HLG
    obtain ⟨k, T, M', rfl, hk, hl, hgo, hsame, hTl⟩ := hrel
    obtain ⟨c0, c1, -, -⟩ := hl.head
    have HL := Lib.hid hl
    have HGO := Lib.hid hgo
    have HSM := Lib.hid hsame
    have HTL2 := Lib.hid hTl
    obtain ⟨n, hn⟩ : ∃ n, n = lo + k := ⟨_, rfl⟩
    rw [← hn] at hk ⊢
    have HN := Lib.hid hn
    clear hl hgo hsame hTl hn
    by_cases hlt : n ≤ num
    · have hMM : M' = M1 := HSM.out (by rw [← HN.out]; exact hlt)
      subst hMM
      have ht2 : tot M' ≤ 1048576 := by
        obtain ⟨_, _, _, _, _, _, l, _, hd, _, _⟩ := HL.out
        have := hd.total
        omega
      have hkb : k * B + B ≤ 900000 := by
        have h1 := HBB.out
        have h2 := HN.out
        have h3 : (k + 1) * B ≤ (num + 1 - lo) * B := Nat.mul_le_mul_right _ (by omega)
        rw [Nat.succ_mul] at h3
        omega
      have C := Lib.hid (readSegment_calls HL.out hlt ht2 (by have := HBN.out n; have := HTL2.out; omega))
      have hs := HGO.out
      rw [show num + 1 - (lo + k) = (num - n) + 1 by have := HN.out; omega, openGo, ← HN.out] at hs
      have hcnt := readS_count room num n M'
      have HCN : Hid (T.length + (readS room num M' n).2.1.length ≤ (k + 1) * B) := Lib.hid (by
        have := HBN.out n
        have := HTL2.out
        rw [Nat.succ_mul]
        omega)
      have HS2 : Hid (n < num → (readS room num M' n).2.2 = M') := Lib.hid (fun h => readS_same h)
      obtain ⟨q, hq⟩ : ∃ q, q = readS room num M' n := ⟨_, rfl⟩
      rw [← hq] at C hs HCN HS2
      clear hq ht2 hkb hcnt HSM
      have hle : (n : Int) ≤ (num : Int) := by omega
      obtain ⟨e2, U, M2⟩ := q
      dsimp only at C hs HCN HS2
      by_cases hz : e2 = 0
      · subst hz
        rw [if_pos rfl] at hs
        have HS := Lib.hid hs
        clear hs
        go_wp2_with fail
        refine C.out.mono ?_
        rintro e w5 ⟨rfl, h5⟩
        have H5 := Lib.hid h5
        clear h5 C
        go_wp2
        go_roundw
        case rel =>
          have h1 := HN.out
          refine ⟨k + 1, T ++ U, M2, by rw [show lo + (k + 1) = n + 1 by omega]; go_num, by omega, H5.out, ?_, fun h => HS2.out (by omega), by rw [List.length_append]; exact HCN.out⟩
          rw [show num + 1 - (lo + (k + 1)) = num - n by omega, show lo + (k + 1) = n + 1 by omega]
          exact HS.out
        case measure => simp [intOf]; omega
      · rw [if_neg hz] at hs
        have h0 := HZ.out
        rw [← hs] at h0
        exact absurd h0 hz
    · have hs := HGO.out
      rw [show num + 1 - (lo + k) = 0 by have := HN.out; omega, openGo] at hs
      have HS := Lib.hid hs
      have hgt : ¬ (n : Int) ≤ (num : Int) := by omega
      have hgt2 : decide ((n : Int) ≤ (num : Int)) = false := by simp; omega
      clear hs
      go_wp2
      go_ret2
      rw [← HS.out]
      exact ⟨lb, rfl, HL.out⟩

end Go.Proofs.YtjdpglmphacfjaaGreatDoor
