/-
  What may be, by the reference: puts, brokers that rise.
-/
import Derived.Test.YtanjbbmgpodbgaaKd
import Derived.Test.YtanjbbmgpodbgaaIl
import Derived.BigQuiet
import Derived.Deep.QuietTactic
namespace Go.Proofs.Ytanjbbmgpodbgaa
open Go.RowKit

def putB (p : ByteArray × ByteArray) : Bool := queueB p.1 && bodyB p.2

set_option maxRecDepth 100000 in
theorem refPut_calls (q b : ByteArray) (w : World) (hs : q.size ≤ 9223372036854775807) : Calls Try.prog 23 #[.agg #[.string q, .string b]] w fun e w' => e = .returned (.bool (putB (q, b))) ∧ Turn [] w w' := by
  have C := Lib.hid (fun w => refQueue_calls q w hs)
  have C2 := Lib.hid (fun w => refBody_calls b w)
  have HP : Hid (putB (q, b) = (queueB q && bodyB b)) := Lib.hid rfl
  obtain ⟨x, hx⟩ : ∃ x, x = queueB q := ⟨_, rfl⟩
  obtain ⟨y, hy⟩ : ∃ y, y = bodyB b := ⟨_, rfl⟩
  rw [← hx] at C HP
  rw [← hy] at C2 HP
  rw [HP.out]
  clear hx hy HP
  cases x with
  | true =>
    go_enter Try.func23, Try.ntmps23
    go_wp2_with fail
    refine (C.out _).mono ?_
    rintro e w1 ⟨rfl, rfl⟩
    go_wp2_with fail
    refine (C2.out _).mono ?_
    rintro e w1 ⟨rfl, rfl⟩
    go_wp2
    go_ret
    exact ⟨ret_bool (by simp), Turn.alloc [] w _⟩
  | false =>
    go_enter Try.func23, Try.ntmps23
    go_wp2_with fail
    refine (C.out _).mono ?_
    rintro e w1 ⟨rfl, rfl⟩
    go_wp2
    go_ret
    exact ⟨ret_bool (by simp), Turn.alloc [] w _⟩

def putNone : ByteArray × ByteArray := (⟨#[]⟩, ⟨#[]⟩)

/-- A slice of puts, as cells, two a put. -/
def Ps (w : World) (ao : Option Addr) (c : Nat) (l : List (ByteArray × ByteArray)) : Prop :=
  (ao = none ∧ c = 0 ∧ l = []) ∨
  ∃ A : Addr, ao = some A ∧ l.length ≤ c ∧ c ≤ maxLen ∧ ∀ i, i < l.length → w.cell? (A.add (i * 2)) = some (.string (l.getD i putNone).1) ∧ w.cell? ((A.add (i * 2)).add 1) = some (.string (l.getD i putNone).2) ∧ (l.getD i putNone).1.size ≤ 9223372036854775807 ∧ (l.getD i putNone).2.size ≤ 9223372036854775807

theorem Ps.at {w : World} {ao : Option Addr} {c : Nat} {l : List (ByteArray × ByteArray)} (h : Ps w ao c l) (hl : l ≠ []) : ∃ b off, ao = some ⟨b, off, none⟩ ∧ b < w.heap.size ∧ ∀ i, i < l.length →
    w.cell? ⟨b, off + i * 2, none⟩ = some (.string (l.getD i putNone).1) ∧ w.cell? ⟨b, off + i * 2 + 1, none⟩ = some (.string (l.getD i putNone).2) ∧ (l.getD i putNone).1.size ≤ 9223372036854775807 ∧ (l.getD i putNone).2.size ≤ 9223372036854775807 := by
  rcases h with ⟨_, _, h⟩ | ⟨A, rfl, _, _, hc⟩
  · exact absurd h hl
  · obtain ⟨b, off, spot⟩ := A
    have h0 := (hc 0 (List.length_pos_iff.2 hl)).1
    have hs : spot = none := by simpa [Addr.add] using World.cell?_spot h0
    subst hs
    have hc' : ∀ i, i < l.length → w.cell? ⟨b, off + i * 2, none⟩ = some (.string (l.getD i putNone).1) ∧ w.cell? ⟨b, off + i * 2 + 1, none⟩ = some (.string (l.getD i putNone).2) ∧ (l.getD i putNone).1.size ≤ 9223372036854775807 ∧ (l.getD i putNone).2.size ≤ 9223372036854775807 := fun i hi => by
      have := hc i hi
      simp only [Addr.add_lit] at this
      exact this
    exact ⟨b, off, rfl, World.block_lt_of_cell? _ _ (hc' 0 (List.length_pos_iff.2 hl)).1, hc'⟩

theorem Ps.len {w : World} {ao : Option Addr} {c : Nat} {l : List (ByteArray × ByteArray)} (h : Ps w ao c l) : (l.length : Int) ≤ 9223372036854775807 := by
  rcases h with ⟨_, _, rfl⟩ | ⟨A, _, q1, q2, _⟩
  · simp
  · unfold maxLen at q2; omega

theorem Ps.turn {w w' : World} {ao : Option Addr} {c : Nat} {l : List (ByteArray × ByteArray)} (h : Ps w ao c l) (t : Turn [] w w') : Ps w' ao c l := by
  rcases h with h | ⟨A, h1, h2, h3, h4⟩
  · exact .inl h
  · exact .inr ⟨A, h1, h2, h3, fun i hi => ⟨t.cell (h4 i hi).1 (by simp), t.cell (h4 i hi).2.1 (by simp), (h4 i hi).2.2⟩⟩

def putsB (l : List (ByteArray × ByteArray)) : Bool := l.all putB && decide (l.length ≤ 10)

theorem puts_next {l : List (ByteArray × ByteArray)} {k : Nat} (hk : k < l.length) (h : (l.take k).all putB = true) (h2 : putB (l.getD k putNone) = true) : (l.take (k + 1)).all putB = true := by
  have e : l.getD k putNone = l[k] := by simp [List.getD, hk]
  rw [e] at h2
  rw [List.take_succ_eq_append_getElem hk, List.all_append, h]
  simp [h2]

theorem puts_bad {l : List (ByteArray × ByteArray)} {k : Nat} (hk : k < l.length) (h2 : putB (l.getD k putNone) = false) : putsB l = false := by
  have e : l.getD k putNone = l[k] := by simp [List.getD, hk]
  rw [e] at h2
  have : l.all putB = false := by
    rw [List.all_eq_false]
    exact ⟨l[k], List.getElem_mem hk, by rw [h2]; simp⟩
  unfold putsB
  rw [this, Bool.false_and]

set_option maxHeartbeats 1000000 in
set_option maxRecDepth 100000 in
theorem refPuts_calls {w : World} {ao : Option Addr} {c : Nat} {l : List (ByteArray × ByteArray)} (h : Ps w ao c l) : Calls Try.prog 47 #[.slice ao l.length c] w fun e w' => e = .returned (.bool (putsB l)) ∧ Turn [] w w' := by
  have hlen := h.len
  have H := Lib.hid h
  obtain ⟨n, hn⟩ : ∃ n, n = l.length := ⟨_, rfl⟩
  have HN := Lib.hid hn
  rw [← hn] at hlen ⊢
  clear h hn
  go_enter Try.func47, Try.ntmps47
  go_wp2_with fail
  go_loopw [3] (fun vi wx => ∃ k : Nat, k ≤ n ∧ vi = .int .i64 (k : Int) ∧ (l.take k).all putB = true ∧ Turn [] w wx) (fun vi _ => n - (intOf vi).toNat)
  case atStart => exact ⟨0, by omega, rfl, rfl, Turn.refl _ _⟩
  case round =>
    obtain ⟨k, hk, rfl, hall, ht⟩ := hrel
    have HA := Lib.hid hall
    have T := Lib.hid ht
    clear hall ht
    by_cases hkn : k < n
    · have hkl : k < l.length := by rw [← HN.out]; exact hkn
      obtain ⟨b, off, rfl, -, hat⟩ := (H.out.turn T.out).at (by intro e; rw [e] at hkl; simp at hkl)
      obtain ⟨h0, h1, hs0, -⟩ := hat k hkl
      have C := Lib.hid (fun w => refPut_calls (l.getD k putNone).1 (l.getD k putNone).2 w hs0)
      have HB := Lib.hid (fun h => puts_bad hkl h)
      have HX := Lib.hid (fun h => puts_next hkl HA.out h)
      obtain ⟨q, hq⟩ : ∃ q, q = (l.getD k putNone).1 := ⟨_, rfl⟩
      obtain ⟨y, hy⟩ : ∃ y, y = (l.getD k putNone).2 := ⟨_, rfl⟩
      have hqy : l.getD k putNone = (q, y) := by rw [hq, hy]
      rw [← hq] at h0 C
      rw [← hy] at h1 C
      rw [hqy] at HB HX
      have hb : 0 ≤ (k : Int) ∧ (k : Int) < (n : Int) := by omega
      clear hat hq hy hqy hs0
      obtain ⟨r, hr⟩ : ∃ r, r = putB (q, y) := ⟨_, rfl⟩
      rw [← hr] at C HB HX
      clear hr
      cases r with
      | true =>
        go_wp2_with fail
        refine (C.out _).mono ?_
        rintro e w1 ⟨rfl, t1⟩
        have T1 := Lib.hid (T.out.trans t1 (by simp))
        clear t1 C
        go_wp2
        go_roundw
        case rel => exact ⟨k + 1, by omega, by go_num, HX.out trivial, T1.out⟩
        case measure => simp [intOf]; omega
      | false =>
        go_wp2_with fail
        refine (C.out _).mono ?_
        rintro e w1 ⟨rfl, t1⟩
        have T1 := Lib.hid (T.out.trans t1 (by simp))
        clear t1 C
        go_wp2
        go_ret
        exact ⟨ret_bool (HB.out trivial).symm, T1.out⟩
    · have hkk : k = n := by omega
      have hall : l.all putB = true := by have := HA.out; rwa [hkk, HN.out, List.take_length] at this
      have HO : Hid (putsB l = decide (n ≤ 10)) := Lib.hid (by unfold putsB; rw [hall, Bool.true_and, HN.out])
      clear hall HA hkk
      go_wp2
      go_ret
      exact ⟨ret_bool (by rw [HO.out, Bool.eq_iff_iff]; simp; try omega), T.out⟩

def risingB (l : List Int) : Bool := decide (∀ i, i < l.length → brokerB (l.getD i 0) = true ∧ (0 < i → l.getD (i - 1) 0 < l.getD i 0)) && decide (l.length ≤ 7)

theorem rising_bad {l : List Int} {k : Nat} (hk : k < l.length) (h : ¬ (brokerB (l.getD k 0) = true ∧ (0 < k → l.getD (k - 1) 0 < l.getD k 0))) : risingB l = false := by
  unfold risingB
  rw [decide_eq_false (fun h1 => h (h1 k hk)), Bool.false_and]

theorem rising_end {l : List Int} (h : ∀ i, i < l.length → brokerB (l.getD i 0) = true ∧ (0 < i → l.getD (i - 1) 0 < l.getD i 0)) : risingB l = decide (l.length ≤ 7) := by
  unfold risingB
  rw [decide_eq_true h, Bool.true_and]

set_option maxHeartbeats 2000000 in
set_option maxRecDepth 100000 in
theorem refRising_calls {w : World} {ao : Option Addr} {c : Nat} {l : List Int} (h : Il w ao c l) : Calls Try.prog 48 #[.slice ao l.length c] w fun e w' => e = .returned (.bool (risingB l)) ∧ ∃ d, w' = w.drewN d := by
  have hlen := h.len
  have H := Lib.hid h
  obtain ⟨n, hn⟩ : ∃ n, n = l.length := ⟨_, rfl⟩
  have HN := Lib.hid hn
  rw [← hn] at hlen ⊢
  clear h hn
  go_enter Try.func48, Try.ntmps48
  go_wp2_with fail
  go_loopw [3] (fun vi wx => ∃ k : Nat, k ≤ n ∧ vi = .int .i64 (k : Int) ∧ (∀ i, i < k → brokerB (l.getD i 0) = true ∧ (0 < i → l.getD (i - 1) 0 < l.getD i 0)) ∧ ∃ d, wx = w.drewN d) (fun vi _ => n - (intOf vi).toNat)
  case atStart => exact ⟨0, by omega, rfl, fun i hi => by omega, 0, rfl⟩
  case round =>
    obtain ⟨k, hk, rfl, hall, d, rfl⟩ := hrel
    have HA := Lib.hid hall
    clear hall
    by_cases hkn : k < n
    · have hkl : k < l.length := by rw [← HN.out]; exact hkn
      obtain ⟨b, off, rfl, -, hat⟩ := H.out.at (by intro e; rw [e] at hkl; simp at hkl)
      have h0 := hat k hkl
      have C := Lib.hid (fun w => refBroker_calls (l.getD k 0) w)
      have hb : 0 ≤ (k : Int) ∧ (k : Int) < (n : Int) := by omega
      have HB := Lib.hid (fun h => rising_bad hkl h)
      have HX : Hid (brokerB (l.getD k 0) = true ∧ (0 < k → l.getD (k - 1) 0 < l.getD k 0) → ∀ i, i < k + 1 → brokerB (l.getD i 0) = true ∧ (0 < i → l.getD (i - 1) 0 < l.getD i 0)) := Lib.hid (fun hq i hi => by
        by_cases e : i = k
        · rw [e]; exact hq
        · exact HA.out i (by omega))
      obtain ⟨y, hy⟩ : ∃ y, y = l.getD k 0 := ⟨_, rfl⟩
      rw [← hy] at h0 C HB HX
      by_cases hr : brokerB y = true
      · rw [hr] at C
        rcases k with _ | k
        · have HX2 := Lib.hid (HX.out ⟨hr, fun h => by omega⟩)
          rw [Nat.add_zero] at h0
          clear hr hat hy HB HX HA
          go_wp2_with fail
          go_quiet ((go_at_call 21; exact (C.out _).mono fun _ _ h => ⟨h.1, _, h.2.symm⟩))
          go_wp2
          go_roundw
          case rel => exact ⟨0 + 1, by omega, by go_num, HX2.out, _, rfl⟩
          case measure => simp [intOf]; omega
        · have h1 := hat k (by omega)
          obtain ⟨z, hz⟩ : ∃ z, z = l.getD k 0 := ⟨_, rfl⟩
          rw [← hz] at h1
          have hkb : ((k : Int) + 1).toNat = k + 1 := by omega
          have hkw : IntKind.i64.wrap (k : Int) = (k : Int) := by rw [IntKind.wrap_i64]; omega
          have hk2 : 0 ≤ (k : Int) + 1 ∧ (k : Int) + 1 < (n : Int) := by omega
          have hk3 : 0 ≤ (k : Int) ∧ (k : Int) < (n : Int) := by omega
          have hk4 : (0 : Int) < (k : Int) + 1 := by omega
          by_cases hzy : z < y
          · have HX2 := Lib.hid (HX.out ⟨hr, fun _ => by rw [Nat.add_sub_cancel, ← hz]; exact hzy⟩)
            have hnl : ¬ y ≤ z := by omega
            clear hr hat hy hz HB HX HA
            go_wp2_with fail
            go_quiet ((go_at_call 21; exact (C.out _).mono fun _ _ h => ⟨h.1, _, h.2.symm⟩))
            go_wp2
            go_roundw
            case rel => exact ⟨(k + 1) + 1, by omega, by go_num, HX2.out, _, rfl⟩
            case measure => simp [intOf]; omega
          · have HB2 := Lib.hid (HB.out (fun h => hzy (by have := h.2 (by omega); rwa [Nat.add_sub_cancel, ← hz] at this)))
            have hnl : y ≤ z := by omega
            clear hr hat hy hz HB HX HA
            go_wp2_with fail
            go_quiet ((go_at_call 21; exact (C.out _).mono fun _ _ h => ⟨h.1, _, h.2.symm⟩))
            go_wp2
            go_ret
            exact ⟨ret_bool HB2.out.symm, _, World.drewN_drewN _ _ _⟩
      · have hrf : brokerB y = false := by simpa using hr
        rw [hrf] at C
        have HB2 := Lib.hid (HB.out (fun h => hr h.1))
        clear hr hrf hat hy HB HX HA
        go_wp2_with fail
        go_quiet ((go_at_call 21; exact (C.out _).mono fun _ _ h => ⟨h.1, _, h.2.symm⟩))
        go_wp2
        go_ret
        exact ⟨ret_bool HB2.out.symm, _, World.drewN_drewN _ _ _⟩
    · have hkk : k = n := by omega
      have HO : Hid (risingB l = decide (n ≤ 7)) := Lib.hid (by rw [rising_end (by rw [← HN.out, ← hkk]; exact HA.out), HN.out])
      clear HA hkk
      go_wp2
      go_ret
      exact ⟨ret_bool (by rw [HO.out, Bool.eq_iff_iff]; simp; try omega), _, rfl⟩

end Go.Proofs.Ytanjbbmgpodbgaa
