/-
  What may be, by the program: queues, bodies, brokers, numbers and their homes.
-/
import Derived.Test.YtanjbbmgpodbgaaKr
import Derived.Laws.RangeAny
namespace Go.Proofs.Ytanjbbmgpodbgaa
open Go.RowKit

theorem width_pos (s : ByteArray) (pos : Nat) (h : pos < s.size) : 1 ≤ (Utf8.decode s pos).2 := by
  by_cases ha : (s[pos]'h).toNat < 128
  · rw [decode_ascii s pos h ha]
    exact Nat.le_refl _
  · exact (decode_high s pos h (by omega)).2

set_option maxHeartbeats 1000000 in
set_option maxRecDepth 100000 in
theorem kindQueue_calls (s : ByteArray) (w : World) :
    Calls Try.prog 16 #[.string s] w fun e w' => e = .returned (.bool (queueB s)) ∧ Turn [] w w' := by
  by_cases hs1 : s.size < 1
  · have HQ : Hid (queueB s = false) := Lib.hid (by unfold queueB; rw [decide_eq_false (by omega : ¬ 1 ≤ s.size), Bool.false_and, Bool.and_false])
    go_enter Try.func16, Try.ntmps16
    go_wp2
    all_goals go_ret
    all_goals exact ⟨ret_bool HQ.out.symm, Turn.refl _ _⟩
  by_cases hs8 : 8 < s.size
  · have HQ : Hid (queueB s = false) := Lib.hid (by unfold queueB; rw [decide_eq_false (by omega : ¬ s.size ≤ 8), Bool.and_false, Bool.and_false])
    go_enter Try.func16, Try.ntmps16
    go_wp2
    all_goals go_ret
    all_goals exact ⟨ret_bool HQ.out.symm, Turn.refl _ _⟩
  have HQ : Hid (queueB s = s.data.toList.all okLet) := Lib.hid (by unfold queueB; rw [decide_eq_true (by omega : 1 ≤ s.size), decide_eq_true (by omega : s.size ≤ 8), Bool.and_self, Bool.and_true])
  go_enter Try.func16, Try.ntmps16
  go_wp2
  go_loopw [] (fun w' => ∃ k : Nat, k ≤ s.size ∧ w' = w.iter s k ∧ (s.data.toList.take k).all okLet = true) (fun w' => s.size - w'.iterPos w.heap.size)
  case atStart => exact ⟨0, by omega, rfl, rfl⟩
  case round =>
    obtain ⟨k, hk, rfl, hall⟩ := hrel
    have HA := Lib.hid hall
    clear hall
    by_cases hlt : k < s.size
    · have hs' : k < s.data.toList.length := by simpa using hlt
      have hE : s.data.toList[k] = s[k] := by simp [ByteArray.getElem_eq_getElem_data]
      by_cases ha : (s[k]'hlt).toNat < 128
      · have hnx : ∀ ty, (Instr.next (.pointer (some ⟨w.heap.size, 0, none⟩)) true ty).run Try.prog (w.iter s k) = _ := fun ty => run_next_ascii w s k ty hlt ha
        obtain ⟨x, hx⟩ : ∃ x : Nat, x = s[k].toNat := ⟨_, rfl⟩
        have hok := okLet_is s.data.toList[k] x (by rw [hE, hx])
        have HN := Lib.hid (fun h => let_next hs' HA.out h)
        have HB := Lib.hid (fun h => let_bad hs' h)
        have HO := Lib.hid hok
        rw [← hx] at hnx ha
        clear hok hE HA
        have HX := Lib.hid hx
        clear hx
        rcases (by omega : x < 97 ∨ (97 ≤ x ∧ x ≤ 122) ∨ 122 < x) with h | h | h
        · have HF := Lib.hid (HB.out (by rw [HO.out]; simp; omega))
          go_wp2
          all_goals go_ret
          all_goals exact ⟨ret_bool (a := false) HF.out.symm, Turn.alloc [] w _⟩
        · have HF := Lib.hid (HN.out (by rw [HO.out]; simp; omega))
          go_wp2
          all_goals
            go_roundw
            case rel => exact ⟨k + 1, by omega, rfl, HF.out⟩
            case measure => simp; omega
        · have HF := Lib.hid (HB.out (by rw [HO.out]; simp; omega))
          go_wp2
          all_goals go_ret
          all_goals exact ⟨ret_bool (a := false) HF.out.symm, Turn.alloc [] w _⟩
      · have hnx : ∀ ty, (Instr.next (.pointer (some ⟨w.heap.size, 0, none⟩)) true ty).run Try.prog (w.iter s k) = _ := fun ty => run_next_any w s k ty hlt
        have hd := (decode_high s k hlt (by omega)).1
        have hf : okLet s.data.toList[k] = false := by rw [okLet_is _ _ rfl, hE]; simp; omega
        have HF := Lib.hid (let_bad hs' hf)
        clear hf hE ha
        generalize (Utf8.decode s k).1 = x at *
        generalize (Utf8.decode s k).2 = y at *
        go_wp2
        all_goals go_ret
        all_goals exact ⟨ret_bool (a := false) HF.out.symm, Turn.alloc [] w _⟩
    · have hnx : ∀ ty, (Instr.next (.pointer (some ⟨w.heap.size, 0, none⟩)) true ty).run Try.prog (w.iter s k) = _ := fun ty => run_next_end w s k ty hlt
      have hkk : k = s.size := by omega
      have hall : s.data.toList.all okLet = true := by have := HA.out; rwa [hkk, List.take_of_length_le (by simp)] at this
      have HF := Lib.hid (HQ.out.trans hall)
      clear hall HA hkk
      go_wp2
      go_ret
      exact ⟨ret_bool HF.out.symm, Turn.alloc [] w _⟩

theorem kindBody_calls (s : ByteArray) (w : World) : Calls Try.prog 18 #[.string s] w fun e w' => e = .returned (.bool (bodyB s)) ∧ w = w' := by
  go_enter Try.func18, Try.ntmps18
  go_wp2
  go_ret
  exact ⟨ret_bool (by unfold bodyB; rw [Bool.eq_iff_iff]; simp; try omega), rfl⟩

theorem kindBroker_calls (n : Int) (w : World) : Calls Try.prog 20 #[.int .i64 n] w fun e w' => e = .returned (.bool (brokerB n)) ∧ w = w' := by
  by_cases h1 : 1 ≤ n
  · by_cases h2 : n ≤ 8
    · have hb : brokerB n = true := decide_eq_true ⟨h1, h2⟩
      rw [hb]
      go_enter Try.func20, Try.ntmps20
      go_wp2
      go_ret
      exact ⟨ret_bool (by simp), rfl⟩
    · have hb : brokerB n = false := decide_eq_false (fun h => h2 h.2)
      rw [hb]
      go_enter Try.func20, Try.ntmps20
      go_wp2
      go_ret
      exact ⟨ret_bool (by simp; try omega), rfl⟩
  · have hb : brokerB n = false := decide_eq_false (fun h => h1 h.1)
    rw [hb]
    go_enter Try.func20, Try.ntmps20
    go_wp2
    go_ret
    exact ⟨ret_bool (by simp; try omega), rfl⟩

set_option maxHeartbeats 1000000 in
theorem kindMake_calls (b n : Int) (w : World) : Calls Try.prog 24 #[.int .i64 b, .int .i64 n] w fun e w' => e = .returned (.int .i64 (makeZ b n)) ∧ w = w' := by
  have C := Lib.hid (kindBroker_calls b w)
  by_cases hb : brokerB b = true
  · rw [hb] at C
    have hb2 := of_decide_eq_true hb
    by_cases h1 : n < 1
    · have HM : Hid (makeZ b n = 0) := Lib.hid (by unfold makeZ; rw [if_neg (by omega)])
      clear hb
      go_enter Try.func24, Try.ntmps24
      go_wp2_with fail
      refine C.out.mono ?_
      rintro e w1 ⟨rfl, rfl⟩
      clear C
      go_wp2
      go_ret
      exact ⟨ret_int HM.out.symm, rfl⟩
    · by_cases h2 : 4294967296 ≤ n
      · have HM : Hid (makeZ b n = 0) := Lib.hid (by unfold makeZ; rw [if_neg (by omega)])
        clear hb
        go_enter Try.func24, Try.ntmps24
        go_wp2_with fail
        refine C.out.mono ?_
        rintro e w1 ⟨rfl, rfl⟩
        clear C
        go_wp2
        go_ret
        exact ⟨ret_int HM.out.symm, rfl⟩
      · have HM : Hid (makeZ b n = b * 4294967296 + n) := Lib.hid (by unfold makeZ; rw [if_pos ⟨hb, by omega, by omega⟩])
        have hm : IntKind.i64.wrap (b * 4294967296) = b * 4294967296 := by rw [IntKind.wrap_i64]; omega
        have hm2 : IntKind.i64.wrap (b * 4294967296 + n) = b * 4294967296 + n := by rw [IntKind.wrap_i64]; omega
        clear hb
        go_enter Try.func24, Try.ntmps24
        go_wp2_with fail
        refine C.out.mono ?_
        rintro e w1 ⟨rfl, rfl⟩
        clear C
        go_wp2
        go_ret
        exact ⟨ret_int HM.out.symm, rfl⟩
  · have hbf : brokerB b = false := by simpa using hb
    rw [hbf] at C
    have HM : Hid (makeZ b n = 0) := Lib.hid (by unfold makeZ; rw [if_neg (fun h => hb h.1)])
    clear hb hbf
    go_enter Try.func24, Try.ntmps24
    go_wp2_with fail
    refine C.out.mono ?_
    rintro e w1 ⟨rfl, rfl⟩
    clear C
    go_wp2
    go_ret
    exact ⟨ret_int HM.out.symm, rfl⟩

theorem home_make (t : Int) : homeZ t = if makeZ (t.tdiv 4294967296) (t.tmod 4294967296) = t then t.tdiv 4294967296 else 0 := by
  by_cases h : 0 ≤ t
  · rw [Int.tdiv_eq_ediv_of_nonneg h, Int.tmod_eq_emod_of_nonneg h]
    unfold homeZ makeZ brokerB
    simp only [decide_eq_true_eq]
    repeat' split
    all_goals omega
  · obtain ⟨s, rfl⟩ : ∃ s, t = -s := ⟨-t, by omega⟩
    have hs : 0 < s := by omega
    have hm : makeZ ((-s).tdiv 4294967296) ((-s).tmod 4294967296) = 0 := by
      rw [Int.neg_tdiv, Int.neg_tmod, Int.tdiv_eq_ediv_of_nonneg (by omega), Int.tmod_eq_emod_of_nonneg (by omega)]
      unfold makeZ
      rw [if_neg (by omega)]
    rw [hm, if_neg (by omega)]
    unfold homeZ
    rw [if_neg (by omega)]

theorem tdiv_wrap (t : Int) (ht : -9223372036854775808 ≤ t ∧ t ≤ 9223372036854775807) : IntKind.i64.wrap (t.tdiv 4294967296) = t.tdiv 4294967296 := by
  have h : -2147483648 ≤ t.tdiv 4294967296 ∧ t.tdiv 4294967296 ≤ 2147483648 := by
    by_cases h : 0 ≤ t
    · rw [Int.tdiv_eq_ediv_of_nonneg h]
      omega
    · obtain ⟨s, rfl⟩ : ∃ s, t = -s := ⟨-t, by omega⟩
      rw [Int.neg_tdiv, Int.tdiv_eq_ediv_of_nonneg (by omega)]
      omega
  rw [IntKind.wrap_i64]
  omega

set_option maxHeartbeats 1000000 in
theorem kindHome_calls (t : Int) (w : World) (ht : -9223372036854775808 ≤ t ∧ t ≤ 9223372036854775807) : Calls Try.prog 27 #[.int .i64 t] w fun e w' => e = .returned (.int .i64 (homeZ t)) ∧ w = w' := by
  have H := home_make t
  have hw := tdiv_wrap t ht
  clear ht
  have C := Lib.hid (kindMake_calls (t.tdiv 4294967296) (t.tmod 4294967296) w)
  obtain ⟨m, hm⟩ : ∃ m, m = makeZ (t.tdiv 4294967296) (t.tmod 4294967296) := ⟨_, rfl⟩
  rw [← hm] at C H
  obtain ⟨z, hz⟩ : ∃ z, z = homeZ t := ⟨_, rfl⟩
  rw [← hz] at H ⊢
  clear hm hz
  by_cases hmt : m = t
  · rw [if_pos hmt] at H
    rw [hmt] at C
    obtain ⟨d, hd⟩ : ∃ d, d = t.tdiv 4294967296 := ⟨_, rfl⟩
    have HZ : Hid (d = z) := Lib.hid (hd.trans H.symm)
    have HD := Lib.hid hd
    clear H hmt hd
    go_enter Try.func27, Try.ntmps27
    go_wp2_with fail
    refine C.out.mono ?_
    rintro e w1 ⟨rfl, rfl⟩
    go_wp2
    go_ret
    exact ⟨ret_int (HD.out.symm.trans HZ.out), rfl⟩
  · rw [if_neg hmt] at H
    have HZ := Lib.hid H
    have f1 : (m != t) = true := by simpa using hmt
    clear H hmt
    go_enter Try.func27, Try.ntmps27
    go_wp2_with fail
    refine C.out.mono ?_
    rintro e w1 ⟨rfl, rfl⟩
    go_wp2
    go_ret
    exact ⟨ret_int HZ.out.symm, rfl⟩

theorem tid_bool (t : Int) : decide (0 < homeZ t) = (homeZ t != 0) := by
  have := homeZ_range t
  rw [Bool.eq_iff_iff]
  simp
  omega

theorem kindTid_calls (t : Int) (w : World) (ht : -9223372036854775808 ≤ t ∧ t ≤ 9223372036854775807) : Calls Try.prog 26 #[.int .i64 t] w fun e w' => e = .returned (.bool (decide (0 < homeZ t))) ∧ w = w' := by
  have C := Lib.hid (kindHome_calls t w ht)
  rw [tid_bool]
  obtain ⟨h, hh⟩ : ∃ h, h = homeZ t := ⟨_, rfl⟩
  rw [← hh] at C ⊢
  clear hh
  go_enter Try.func26, Try.ntmps26
  go_wp2_with fail
  refine C.out.mono ?_
  rintro e w1 ⟨rfl, rfl⟩
  clear C
  go_wp2
  go_ret
  exact ⟨rfl, rfl⟩

set_option maxRecDepth 100000 in
theorem kindPut_calls (q b : ByteArray) (w : World) : Calls Try.prog 22 #[.agg #[.string q, .string b]] w fun e w' => e = .returned (.bool (putB (q, b))) ∧ Turn [] w w' := by
  have C := Lib.hid (fun w => kindQueue_calls q w)
  have C2 := Lib.hid (fun w => kindBody_calls b w)
  have HP : Hid (putB (q, b) = (queueB q && bodyB b)) := Lib.hid rfl
  obtain ⟨x, hx⟩ : ∃ x, x = queueB q := ⟨_, rfl⟩
  obtain ⟨y, hy⟩ : ∃ y, y = bodyB b := ⟨_, rfl⟩
  rw [← hx] at C HP
  rw [← hy] at C2 HP
  rw [HP.out]
  clear hx hy HP
  have T0 := Lib.hid (Turn.alloc [] w (.cells #[.string q, .string b] 29))
  have H1 : (w.alloc (.cells #[.string q, .string b] 29)).cell? ⟨w.heap.size, 1, none⟩ = some (.string b) := by
    rw [cell_of_row _ _ _ _ _ _ (heap_alloc_new w _)]; rfl
  have HH := Lib.hid H1
  clear H1
  cases x with
  | true =>
    go_enter Try.func22, Try.ntmps22
    go_wp2_with fail
    refine (C.out _).mono ?_
    rintro e w1 ⟨rfl, t1⟩
    have T1 := Lib.hid (T0.out.trans t1 (by simp))
    have h1 := t1.cell HH.out (by simp)
    clear t1
    go_wp2_with fail
    refine (C2.out _).mono ?_
    rintro e w1 ⟨rfl, rfl⟩
    go_wp2
    go_ret
    exact ⟨ret_bool (by simp), T1.out⟩
  | false =>
    go_enter Try.func22, Try.ntmps22
    go_wp2_with fail
    refine (C.out _).mono ?_
    rintro e w1 ⟨rfl, t1⟩
    have T1 := Lib.hid (T0.out.trans t1 (by simp))
    clear t1
    go_wp2
    go_ret
    exact ⟨ret_bool (by simp), T1.out⟩

end Go.Proofs.Ytanjbbmgpodbgaa
