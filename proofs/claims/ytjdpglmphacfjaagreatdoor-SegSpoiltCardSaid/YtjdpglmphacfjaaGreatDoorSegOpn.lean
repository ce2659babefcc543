/-
  The walk of Open.
-/
import Derived.Test.YtjdpglmphacfjaaGreatDoorSegOpen
namespace Go.Proofs.YtjdpglmphacfjaaGreatDoor
open Go.RowKit

/-- Segment by segment. -/
def openGo (room num : Nat) : Nat → Nat → List (List UInt8) → List Fm → Int × List (List UInt8) × List Fm
  | 0, _, T, M => (0, T, M)
  | k + 1, n, T, M => if (readS room num M n).1 = 0 then openGo room num k (n + 1) (T ++ (readS room num M n).2.1) (readS room num M n).2.2 else ((readS room num M n).1, T ++ (readS room num M n).2.1, (readS room num M n).2.2)

def openAt (M : List Fm) (lo : Nat) : Nat := lastOn (mDel newName M) lo
def openF (room : Nat) (M : List Fm) (lo : Nat) : Int × List (List UInt8) × List Fm := openGo room (openAt M lo) (openAt M lo + 1 - lo) lo [] (mDel newName M)

/-- Ahead of the last one the disk stays. -/
theorem readS_same {room num n : Nat} {M : List Fm} (h : n < num) : (readS room num M n).2.2 = M := by
  unfold readS
  split
  · first | rfl | (rw [if_pos h])
  · split <;> rfl

theorem readS_count (room num n : Nat) (M : List Fm) : (readS room num M n).2.1.length ≤ (bytesOf M (segName n)).length := by
  have h1 := unfr_count _ (bytesOf M (segName n)) (Nat.le_refl _)
  unfold readS
  split
  · split
    · simp
    · split
      · exact h1
      · simp
  · split
    · exact h1
    · simp

theorem new_len : (⟨#[110, 101, 119]⟩ : ByteArray) = ⟨newName.toArray⟩ := rfl

set_option maxHeartbeats 4000000 in
set_option maxRecDepth 100000 in
theorem open_calls {wq w : World} {d room : Nat} {M : List Fm} (h : Dk wq w d room M) (ht : Tab wq) (lo : Nat) (hlo : lo ≤ 999) (B : Nat) (hB : ∀ n, (bytesOf (mDel newName M) (segName n)).length ≤ B) (hBB : (openAt M lo + 1 - lo) * B ≤ 900000) :
    Calls Tryz.prog 9 #[.pointer (some ⟨d, 0, none⟩), .int .i64 (lo : Int)] w fun e w' =>
      ((openF room M lo).1 = 0 → ∃ lb, e = .returned (.tuple #[.pointer (some ⟨lb, 0, none⟩), .int .i64 0]) ∧ Lg [] wq w' lb d room (openAt M lo) (openF room M lo).2.1 (openF room M lo).2.2) ∧
      ((openF room M lo).1 ≠ 0 → e = .returned (.tuple #[.pointer none, .int .i64 (openF room M lo).1]) ∧ Dk wq w' d room (openF room M lo).2.2) := by
  have CM := mayNumber_calls (lo : Int) w
  rw [show (decide (0 ≤ (lo : Int)) && decide ((lo : Int) ≤ 999)) = true by simp; omega] at CM
  have HM := Lib.hid CM
  have CD := Lib.hid (dk_delete_fn (n := newName) h newName_len)
  obtain ⟨num, hnum⟩ : ∃ num, num = openAt M lo := ⟨_, rfl⟩
  obtain ⟨r, hr⟩ : ∃ r, r = openF room M lo := ⟨_, rfl⟩
  rw [← hnum, ← hr]
  rw [← hnum] at hBB
  obtain ⟨M1, hM1⟩ : ∃ M1, M1 = mDel newName M := ⟨_, rfl⟩
  have hn2 : num = lastOn M1 lo := by rw [hnum, hM1]; rfl
  have hr2 : r = openGo room num (num + 1 - lo) lo [] M1 := by rw [hr, hnum, hM1]; rfl
  have hnl : lo ≤ num ∧ num ≤ 999 := by
    rw [hn2]
    have h1 := lastK_ge M1 lo (999 - lo)
    have h2 := lastK_le M1 lo (999 - lo)
    unfold lastOn
    omega
  rw [← hM1] at hB
  have HN2 := Lib.hid hn2
  have HR2 := Lib.hid hr2
  have HMM := Lib.hid hM1
  have HTQ := Lib.hid ht
  have HBN := Lib.hid hB
  have HBB := Lib.hid hBB
  have hus := unless6_syn M newName
  have HUS := Lib.hid hus
  clear CM h hnum hr hM1 hn2 hr2 ht hB hBB hus
  go_enter Tryz.func9, Tryz.ntmps9
  go_wp2_with fail
  refine HM.out.mono ?_
  rintro e w' ⟨rfl, rfl⟩
  go_wp2_with fail
  refine CD.out.mono ?_
  rintro e w1 ⟨rfl, hd1⟩
  rw [← HMM.out] at hd1
  have HD1 := Lib.hid hd1
  clear hd1 CD
  go_wp2_with fail
  refine (unlessNone_calls _ _).mono ?_
  rintro e w' ⟨rfl, rfl⟩
  rw [HUS.out]
  go_wp2_with fail
  refine (lastOnDisk_calls HD1.out (HTQ.out.belowAll HD1.out.old) lo hlo).mono ?_
  rintro e w2 ⟨rfl, hb2⟩
  rw [← HN2.out]
  have HD2 := Lib.hid (HD1.out.below hb2)
  clear hb2 HD1
  go_wp2_with fail
  have hL : Lg [] wq (w2.alloc (.cells #[.pointer (some ⟨d, 0, none⟩), .int .i64 (num : Int), .slice none 0 0] 61)) w2.heap.size d room num [] M1 := by
    obtain ⟨h1, l, hd, hl⟩ := HD2.out
    have t := Turn.alloc [] w2 (.cells #[.pointer (some ⟨d, 0, none⟩), .int .i64 (num : Int), .slice none 0 0] 61)
    refine ⟨(Turn.of_below h1 []).trans t (by simp), ⟨HTQ.out, by simp⟩, .inr h1.size, hnl.2, by simp, _, l, heap_alloc_new w2 _, hd.turn t (by simp), fun i hi => ⟨.inr (hl i hi), ?_⟩, Txs.nil _ _⟩
    have := hd.lt i hi
    omega
  have HLG := Lib.hid hL
  clear hL HD2 HM
  generalize w2.alloc _ = w3 at HLG ⊢
  generalize w2.heap.size = lb at HLG ⊢
  go_loopw [8] (fun v8 wr => ∃ (k : Nat) (T : List (List UInt8)) (M' : List Fm), v8 = .int .i64 ((lo + k : Nat) : Int) ∧ lo + k ≤ num + 1 ∧ Lg [] wq wr lb d room num T M' ∧ openGo room num (num + 1 - (lo + k)) (lo + k) T M' = r ∧ (lo + k ≤ num → M' = M1) ∧ T.length ≤ k * B) (fun v8 _ => num + 1 - (intOf v8).toNat)
  case atStart => exact ⟨0, [], M1, rfl, by omega, HLG.out, HR2.out.symm, fun _ => rfl, by simp⟩
  case round =>
    clear HLG
    obtain ⟨k, T, M', rfl, hk, hl, hgo, hsame, hTl⟩ := hrel
    obtain ⟨c0, c1, -, -⟩ := hl.head
    have HL := Lib.hid hl
    have HGO := Lib.hid hgo
    have HSM := Lib.hid hsame
    have HTL := Lib.hid hTl
    obtain ⟨n, hn⟩ : ∃ n, n = lo + k := ⟨_, rfl⟩
    rw [← hn] at hk ⊢
    have HN := Lib.hid hn
    clear hl hgo hsame hTl hn
    by_cases hlt : n ≤ num
    · have hMM : M' = M1 := HSM.out (by rw [← HN.out]; exact hlt)
      subst hMM
      have htot := HL.out.dk
      have ht2 : tot M' ≤ 1048576 := by
        obtain ⟨_, l, hd, _⟩ := htot
        have := hd.total
        omega
      have hkb : k * B + B ≤ 900000 := by
        have h1 := HBB.out
        have h2 := HN.out
        have h3 : (k + 1) * B ≤ (num + 1 - lo) * B := Nat.mul_le_mul_right _ (by omega)
        rw [Nat.succ_mul] at h3
        omega
      have C := Lib.hid (readSegment_calls HL.out hlt ht2 (by have := HBN.out n; have := HTL.out; omega))
      have hs := HGO.out
      rw [show num + 1 - (lo + k) = (num - n) + 1 by have := HN.out; omega, openGo, ← HN.out] at hs
      have hcnt := readS_count room num n M'
      have HCN : Hid (T.length + (readS room num M' n).2.1.length ≤ (k + 1) * B) := Lib.hid (by
        have := HBN.out n
        have := HTL.out
        rw [Nat.succ_mul]
        omega)
      have HS2 : Hid (n < num → (readS room num M' n).2.2 = M') := Lib.hid (fun h => readS_same h)
      obtain ⟨q, hq⟩ : ∃ q, q = readS room num M' n := ⟨_, rfl⟩
      rw [← hq] at C hs HCN HS2
      clear hq htot ht2 hkb hcnt HSM
      have hle : (n : Int) ≤ (num : Int) := by omega
      obtain ⟨e2, U, M2⟩ := q
      dsimp only at C hs HCN HS2
      by_cases hz : e2 = 0
      · subst hz
        rw [if_pos rfl] at hs
        have HS := Lib.hid hs
        clear hs
        go_wp2_with fail
        refine C.out.mono ?_
        rintro e w5 ⟨rfl, h5⟩
        have H5 := Lib.hid h5
        clear h5 C
        go_wp2
        go_roundw
        case rel =>
          have h1 := HN.out
          refine ⟨k + 1, T ++ U, M2, by rw [show lo + (k + 1) = n + 1 by omega]; go_num, by omega, H5.out, ?_, fun h => HS2.out (by omega), by rw [List.length_append]; exact HCN.out⟩
          rw [show num + 1 - (lo + (k + 1)) = num - n by omega, show lo + (k + 1) = n + 1 by omega]
          exact HS.out
        case measure => simp [intOf]; omega
      · rw [if_neg hz] at hs
        have HS := Lib.hid hs
        have HZ := Lib.hid hz
        have a1 : (e2 == 0) = false := by simpa using hz
        have a2 : decide (e2 = 0) = false := by simpa using hz
        clear hs hz
        go_wp2_with fail
        refine C.out.mono ?_
        rintro e w5 ⟨rfl, h5⟩
        have H5 := Lib.hid h5
        clear h5 C
        go_wp2
        go_ret2
        rw [← HS.out]
        exact ⟨fun h => absurd h HZ.out, fun _ => ⟨rfl, H5.out.dk⟩⟩
    · have hs := HGO.out
      rw [show num + 1 - (lo + k) = 0 by have := HN.out; omega, openGo] at hs
      have HS := Lib.hid hs
      have hgt : ¬ (n : Int) ≤ (num : Int) := by omega
      have hgt2 : decide ((n : Int) ≤ (num : Int)) = false := by simp; omega
      clear hs
      go_wp2
      go_ret2
      rw [← HS.out]
      exact ⟨fun _ => ⟨lb, rfl, HL.out⟩, fun h => absurd rfl h⟩

end Go.Proofs.YtjdpglmphacfjaaGreatDoor
