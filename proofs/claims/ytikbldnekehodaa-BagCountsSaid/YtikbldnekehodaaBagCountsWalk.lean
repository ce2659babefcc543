/-
  The walk of the law BagCounts.
-/
import Derived.Test.YtikbldnekehodaaCmpS
import Derived.Test.YtikbldnekehodaaIl
namespace Go.Proofs.Ytikbldnekehodaa
open Go.RowKit

def tX : ByteArray := ⟨#[120]⟩
def tY : ByteArray := ⟨#[121]⟩

/-- The bag of one text, N times. -/
def oneK (N : Nat) : List (ByteArray × Int) := if N = 0 then [] else [(tX, (N : Int))]

structure OneB (w wr : World) (b N : Nat) (v : Value) : Prop where
  bag : S.BagI wr b (.func (.func 33) #[] #[]) v (oneK N)
  b : w.heap.size ≤ b
  v : ∀ k, v.ownBlock = some k → w.heap.size ≤ k
  bel : Below w.heap.size w wr

theorem OneB.step {w wr w' : World} {b N N' : Nat} {v v' : Value} (h : OneB w wr b N v) (hb : S.BagI w' b (.func (.func 33) #[] #[]) v' (oneK N')) (ho : v'.ownBlock = v.ownBlock ∨ ∀ k, v'.ownBlock = some k → wr.heap.size ≤ k)
    (t : Turn (b :: v.ownBlock.toList) wr w') : OneB w w' b N' v' := by
  refine ⟨hb, h.b, fun k hk => ?_, h.bel.trans (t.below (fun k hk => ?_) h.bel.size)⟩
  · rcases ho with e | e
    · rw [e] at hk; exact h.v k hk
    · exact Nat.le_trans h.bel.size (e k hk)
  · rcases List.mem_cons.1 hk with rfl | hk
    · exact h.b
    · exact h.v k (Option.mem_toList.1 hk)

theorem OneB.turn {w wr w' : World} {b N : Nat} {v : Value} (h : OneB w wr b N v) (t : Turn [] wr w') : OneB w w' b N v :=
  ⟨h.bag.turn t (by simp) (fun _ _ => by simp), h.b, h.v, h.bel.trans (t.belowAll.mono h.bel.size)⟩

theorem cmp_xx : cmpS tX tX = 0 := by kernel_rfl
theorem cmp_yx : cmpS tY tX = 1 := by kernel_rfl

theorem one_hhi (N : Int) : ∀ i (hi : i < ([(tX, N)] : List (ByteArray × Int)).length), 0 ≤ i → cmpS tX ([(tX, N)] : List (ByteArray × Int))[i].1 ≤ 0 := by
  intro i hi _
  have hi0 : i = 0 := by simpa using hi
  subst hi0
  show cmpS tX tX ≤ 0
  rw [cmp_xx]
  omega

theorem one_loY (N : Int) : ∀ i (hi : i < ([(tX, N)] : List (ByteArray × Int)).length), i < 1 → 0 < cmpS tY ([(tX, N)] : List (ByteArray × Int))[i].1 := by
  intro i hi hm
  have hi0 : i = 0 := by omega
  subst hi0
  show 0 < cmpS tY tX
  rw [cmp_yx]
  omega

theorem oneB_add {w wr : World} {b N : Nat} {v : Value} (h : OneB w wr b N v) (hN : N ≤ 2000) (a : Int) (ha : -49 ≤ a ∧ a ≤ 49) :
    Calls Try.prog 34 #[.pointer (some ⟨b, 0, none⟩), .string tX, .int .i64 a] wr fun e w' => ∃ v', e = .returned (.int .i64 (max 0 ((N : Int) + a))) ∧ OneB w w' b (max 0 ((N : Int) + a)).toNat v' := by
  by_cases h0 : N = 0
  · subst h0
    have hb := h.bag
    by_cases hp : a ≤ 0
    · refine (S.addI_none (m := 0) hb cmpS_ok trivial trivial hp (Nat.zero_le _) (by intro i hi; simp [oneK] at hi) (by intro i hi; simp [oneK] at hi) (by simp [oneK])).mono ?_
      rintro e w' ⟨rfl, t⟩
      have e1 : max 0 (((0 : Nat) : Int) + a) = 0 := by rw [Int.max_eq_left (by omega)]
      rw [e1]
      exact ⟨v, rfl, h.turn t⟩
    · refine (S.addI_new (m := 0) hb cmpS_ok trivial trivial (by omega) (by omega) (by simp [oneK]) (Nat.zero_le _) (by intro i hi; simp [oneK] at hi) (by intro i hi; simp [oneK] at hi) (by simp [oneK])).mono ?_
      rintro e w' ⟨v', rfl, h2, ho, t⟩
      have e1 : max 0 (((0 : Nat) : Int) + a) = a := by rw [Int.max_eq_right (by omega)]; omega
      rw [e1]
      refine ⟨v', rfl, h.step (N' := a.toNat) ?_ ho t⟩
      have e2 : S.insK (oneK 0) 0 (tX, a) = oneK a.toNat := by
        clear e1
        unfold oneK S.insK
        rw [if_neg (show ¬ a.toNat = 0 by omega), if_pos rfl]
        have e3 : ((a.toNat : Nat) : Int) = a := by omega
        rw [e3]
        rfl
      rw [← e2]
      exact h2
  · have hk : oneK N = [(tX, (N : Int))] := by unfold oneK; rw [if_neg h0]
    have hb := h.bag
    rw [hk] at hb
    refine (S.addI_found (m := 0) hb cmpS_ok trivial trivial (n := a) (by unfold S.inI64; omega) (by simp) (by intro i hi hm; omega) (one_hhi _) (by show cmpS tX tX = 0; exact cmp_xx)).mono ?_
    rintro e w' ⟨v', rfl, h2, ho, t⟩
    have e1 : S.nowK (([(tX, (N : Int))] : List (ByteArray × Int)).getD 0 (⟨#[]⟩, 0)).2 a = max 0 ((N : Int) + a) := by
      show max (plusZ (N : Int) a) 0 = _
      unfold plusZ
      rw [if_neg (by omega)]
      omega
    rw [e1]
    refine ⟨v', rfl, h.step (N' := (max 0 ((N : Int) + a)).toNat) ?_ (.inl ho) t⟩
    have e2 : S.chgK [(tX, (N : Int))] 0 a = oneK (max 0 ((N : Int) + a)).toNat := by
      unfold S.chgK oneK
      rw [e1]
      by_cases hz : max 0 ((N : Int) + a) = 0
      · rw [if_pos hz, if_pos (by omega)]
        rfl
      · rw [if_neg hz, if_neg (by omega)]
        have e3 : (((max 0 ((N : Int) + a)).toNat : Nat) : Int) = max 0 ((N : Int) + a) := by omega
        rw [e3]
        rfl
    rw [← e2]
    exact h2

theorem oneB_count {w wr : World} {b N : Nat} {v : Value} (h : OneB w wr b N v) :
    Calls Try.prog 35 #[.pointer (some ⟨b, 0, none⟩), .string tX] wr fun e w' => e = .returned (.int .i64 (N : Int)) ∧ OneB w w' b N v := by
  have hb := h.bag
  by_cases h0 : N = 0
  · subst h0
    refine (S.countI (m := 0) hb cmpS_ok trivial (x := tX) trivial (Nat.zero_le _) (by intro i hi; simp [oneK] at hi) (by intro i hi; simp [oneK] at hi)).mono ?_
    rintro e w' ⟨rfl, t⟩
    rw [if_neg (by simp [oneK])]
    exact ⟨rfl, h.turn t⟩
  · have hk : oneK N = [(tX, (N : Int))] := by unfold oneK; rw [if_neg h0]
    rw [hk] at hb
    refine (S.countI (m := 0) hb cmpS_ok trivial (x := tX) trivial (Nat.zero_le _) (by intro i hi hm; omega) (one_hhi _)).mono ?_
    rintro e w' ⟨rfl, t⟩
    rw [if_pos ⟨by simp, by show cmpS tX tX = 0; exact cmp_xx⟩]
    exact ⟨rfl, h.turn t⟩

theorem oneB_countY {w wr : World} {b N : Nat} {v : Value} (h : OneB w wr b N v) :
    Calls Try.prog 35 #[.pointer (some ⟨b, 0, none⟩), .string tY] wr fun e w' => e = .returned (.int .i64 0) ∧ OneB w w' b N v := by
  have hb := h.bag
  by_cases h0 : N = 0
  · subst h0
    refine (S.countI (m := 0) hb cmpS_ok trivial (x := tY) trivial (Nat.zero_le _) (by intro i hi; simp [oneK] at hi) (by intro i hi; simp [oneK] at hi)).mono ?_
    rintro e w' ⟨rfl, t⟩
    rw [if_neg (by simp [oneK])]
    exact ⟨rfl, h.turn t⟩
  · have hk : oneK N = [(tX, (N : Int))] := by unfold oneK; rw [if_neg h0]
    rw [hk] at hb
    refine (S.countI (m := 1) hb cmpS_ok trivial (x := tY) trivial (by simp) (one_loY _) (by intro i hi hm; simp at hi; omega)).mono ?_
    rintro e w' ⟨rfl, t⟩
    rw [if_neg (by simp)]
    exact ⟨rfl, h.turn t⟩

theorem oneB_len {w wr : World} {b N : Nat} {v : Value} (h : OneB w wr b N v) (hN : N ≤ 2000) :
    Calls Try.prog 36 #[.pointer (some ⟨b, 0, none⟩)] wr fun e w' => e = .returned (.int .i64 (N : Int)) ∧ OneB w w' b N v := by
  refine (S.lenI h.bag).mono ?_
  rintro e w' ⟨rfl, t⟩
  have e1 : S.sumK (oneK N) = (N : Int) := by
    unfold oneK S.sumK
    by_cases h0 : N = 0
    · rw [if_pos h0, h0]; rfl
    · rw [if_neg h0]
      show plusZ 0 (N : Int) = _
      unfold plusZ
      rw [if_neg (by omega)]
      omega
  rw [e1]
  exact ⟨rfl, h.turn t⟩

theorem oneB_kinds {w wr : World} {b N : Nat} {v : Value} (h : OneB w wr b N v) :
    Calls Try.prog 37 #[.pointer (some ⟨b, 0, none⟩)] wr fun e w' => e = .returned (.int .i64 (min (N : Int) 1)) ∧ OneB w w' b N v := by
  refine (S.kindsI h.bag).mono ?_
  rintro e w' ⟨rfl, rfl⟩
  have e1 : ((oneK N).length : Int) = min (N : Int) 1 := by
    unfold oneK
    by_cases h0 : N = 0
    · rw [if_pos h0, h0]; rfl
    · rw [if_neg h0]
      simp
      omega
  rw [e1]
  exact ⟨rfl, h⟩

set_option maxHeartbeats 4000000 in
set_option maxRecDepth 100000 in
theorem bagCounts_walk {w : World} (a0 : Option Addr) (c0 : Nat) (l0 : List Int) (w0 : Il w a0 c0 l0) (HB : ∀ w, Calls Try.prog 12 #[] w fun e w' => e = .returned (.bool true) ∧ Below w.heap.size w w') :
    Calls Try.prog 8 #[.slice a0 l0.length c0] w fun e w' => e = .returned (.bool true) ∧ Below w.heap.size w w' := by
  have hlen := w0.len
  have H0 := Lib.hid w0
  have CB := Lib.hid (HB w)
  clear w0 HB
  obtain ⟨n, hn⟩ : ∃ n, n = l0.length := ⟨_, rfl⟩
  have HN := Lib.hid hn
  rw [← hn] at hlen ⊢
  clear hn
  go_enter Try.func8, Try.ntmps8
  go_wp2_with fail
  refine CB.out.mono ?_
  rintro e x1 ⟨rfl, hb1⟩
  have B1 := Lib.hid hb1
  clear hb1 CB
  go_wp2_with fail
  refine (S.newI _ _ x1).mono ?_
  rintro e x2 ⟨rfl, h2, t2⟩
  obtain ⟨b, hbb⟩ : ∃ b, b = x1.heap.size := ⟨_, rfl⟩
  rw [← hbb] at h2 ⊢
  have O2 : Hid (OneB w x2 b 0 (.slice none 0 0)) := Lib.hid ⟨h2, by rw [hbb]; exact B1.out.size, (by intro k hk; cases hk), B1.out.trans (t2.belowAll.mono B1.out.size)⟩
  clear h2 t2 hbb B1
  go_wp2_with fail
  go_loopw [5, 6] (fun vn vi wr => ∃ (k N : Nat) (v : Value), k ≤ n ∧ k ≤ 30 ∧ vi = .int .i64 (k : Int) ∧ vn = .int .i64 (N : Int) ∧ N ≤ 49 * k ∧ OneB w wr b N v) (fun _ vi _ => 30 - (intOf vi).toNat)
  case atStart => exact ⟨0, 0, _, by omega, by omega, rfl, rfl, by omega, O2.out⟩
  case round =>
    obtain ⟨k, N, v, hk, hk30, rfl, rfl, hN, ho⟩ := hrel
    have O := Lib.hid ho
    clear ho O2
    by_cases hlt : k < n ∧ k < 30
    · obtain ⟨hl, h30⟩ := hlt
      obtain ⟨ob, off, rfl, hob, hop⟩ := H0.out.at (by intro e; rw [← List.length_eq_zero_iff] at e; have := HN.out; omega)
      have hcell := (O.out.bel.cell (p := ⟨ob, off + k, none⟩) hob).trans (hop k (by rw [← HN.out]; exact hl))
      obtain ⟨y, hy⟩ : ∃ y, y = l0.getD k 0 := ⟨_, rfl⟩
      have hyb := H0.out.bound k
      rw [← hy] at hcell hyb
      obtain ⟨a, ha⟩ : ∃ a, a = y.tmod 50 := ⟨_, rfl⟩
      have hab : -49 ≤ a ∧ a ≤ 49 := by
        rw [ha, Int.tmod_eq_emod (a := y) (b := 50)]
        split <;> omega
      have hd30 : decide ((k : Int) < 30) = true := by simp; omega
      have hm50 : y.tmod 50 = a := ha.symm
      obtain ⟨M, hM⟩ : ∃ M : Nat, M = (max 0 ((N : Int) + a)).toNat := ⟨_, rfl⟩
      have hMM : max 0 ((N : Int) + a) = (M : Int) := by omega
      have hMM2 : (M : Int) ≤ (N : Int) + 49 := by omega
      have CA := oneB_add O.out (by omega) a hab
      rw [← hM, hMM] at CA
      have HCA := Lib.hid CA
      have hb : 0 ≤ (k : Int) ∧ (k : Int) < (n : Int) := by omega
      clear hop hy CA hM ha hob
      go_wp2_with fail
      refine HCA.out.mono ?_
      rintro e x3 ⟨v3, rfl, o3⟩
      have C3 := Lib.hid (oneB_count o3)
      clear HCA o3 O
      go_wp2_with fail
      refine C3.out.mono ?_
      rintro e x4 ⟨rfl, o4⟩
      have C4 := Lib.hid (oneB_len o4 (by omega))
      clear C3 o4
      go_wp2_with fail
      refine C4.out.mono ?_
      rintro e x5 ⟨rfl, o5⟩
      have C5 := Lib.hid (oneB_kinds o5)
      clear C4 o5
      go_wp2_with fail
      refine C5.out.mono ?_
      rintro e x6 ⟨rfl, o6⟩
      have O6 := Lib.hid o6
      clear C5 o6
      go_wp2
      go_roundw
      case rel => exact ⟨k + 1, M, v3, by omega, by omega, by go_num, rfl, by omega, O6.out⟩
      case measure => simp [intOf]; omega
    · have C3 := Lib.hid (oneB_countY O.out)
      by_cases hl : k < n
      · have hd30 : decide ((k : Int) < 30) = false := by simp; omega
        go_wp2_with fail
        refine C3.out.mono ?_
        rintro e x4 ⟨rfl, o4⟩
        have B4 := Lib.hid o4.bel
        clear o4 C3
        go_wp2
        go_ret
        exact ⟨rfl, B4.out⟩
      · go_wp2_with fail
        refine C3.out.mono ?_
        rintro e x4 ⟨rfl, o4⟩
        have B4 := Lib.hid o4.bel
        clear o4 C3
        go_wp2
        go_ret
        exact ⟨rfl, B4.out⟩

end Go.Proofs.Ytikbldnekehodaa
