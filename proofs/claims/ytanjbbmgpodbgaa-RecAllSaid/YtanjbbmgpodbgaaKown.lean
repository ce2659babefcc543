/-
  What records of a kind have, by the program: the row of each kind, and whether an id, parts, puts fit it.
-/
import Derived.Test.YtanjbbmgpodbgaaKc
import Derived.Test.YtanjbbmgpodbgaaKeq
import Derived.Laws.ResultCell
namespace Go.Proofs.Ytanjbbmgpodbgaa
open Go.RowKit

structure OwnV where
  id : Bool
  yes : Bool
  least : Int
  most : Int
  puts : Int

def OwnV.cells (o : OwnV) : Array Value := #[.bool o.id, .bool o.yes, .int .i64 o.least, .int .i64 o.most, .int .i64 o.puts]

/-- What records of that kind have. -/
def ownV (k : Int) : OwnV :=
  if k = 2 then ⟨true, false, 0, 0, 0⟩ else if k = 4 ∨ k = 7 then ⟨false, false, 0, 0, 10⟩ else if k = 5 then ⟨false, true, 0, 0, 0⟩
  else if k = 6 then ⟨false, false, 1, 7, 0⟩ else if k = 8 then ⟨false, false, 0, 7, 0⟩ else if k = 9 then ⟨false, false, 1, 1, 0⟩ else ⟨false, false, 0, 0, 0⟩

theorem ownsize : (Try.prog.info? 59).map (·.size) = some 5 := by kernel_rfl

theorem results_row_tmp {P : Program} {fn : Func} {p u : Tmp} {ty : TypeId} (h : fn.results = #[.cell p ty, .tmp u]) (tmps : Array Value) (w : World) (g : Nat) (t : TypeId) (cs : Array Value) (fr : Nat × Nat) (d : TypeDesc)
    (hp : tmps.getD p undef = .pointer (some ⟨g, 0, none⟩)) (hg : w.heap[g]? = some (.cells cs t fr))
    (hu : P.underlying ty = some d) (hd : (match d with | .struct _ | .array _ _ => true | _ => false) = true) (hi : (P.info? ty).map (·.size) = some cs.size) :
    (results fn tmps).run P w = .ok (.tuple #[.agg cs, tmps.getD u undef]) w := by
  rw [results_cell_tmp h, hp]
  simp [asAddr, Result.andThen, run_loadVar_row w g t ty cs fr d hg hu hd hi]

set_option maxHeartbeats 2000000 in
set_option maxRecDepth 100000 in
theorem ownOf_calls (k : Int) (w : World) : Calls Try.prog 43 #[.int .i64 k] w fun e w' => e = .returned (.tuple #[.agg (ownV k).cells, .bool (decide (1 ≤ k ∧ k ≤ 9))]) ∧ Turn [] w w' := by
  have hk : k = 1 ∨ k = 2 ∨ k = 3 ∨ k = 4 ∨ k = 5 ∨ k = 6 ∨ k = 7 ∨ k = 8 ∨ k = 9 ∨ (k < 1 ∨ 9 < k) := by omega
  rcases hk with rfl | rfl | rfl | rfl | rfl | rfl | rfl | rfl | rfl | hk
  rotate_left 9
  · have HO : Hid (ownV k = ⟨false, false, 0, 0, 0⟩) := Lib.hid (by unfold ownV; repeat rw [if_neg (by omega)])
    have HD : Hid (decide (1 ≤ k ∧ k ≤ 9) = false) := Lib.hid (decide_eq_false (by omega))
    rw [HO.out, HD.out]
    have f1 : (k == 1) = false := by simp; omega
    have f2 : (k == 2) = false := by simp; omega
    have f3 : (k == 3) = false := by simp; omega
    have f4 : (k == 4) = false := by simp; omega
    have f5 : (k == 5) = false := by simp; omega
    have f6 : (k == 6) = false := by simp; omega
    have f7 : (k == 7) = false := by simp; omega
    have f8 : (k == 8) = false := by simp; omega
    have f9 : (k == 9) = false := by simp; omega
    clear hk HO HD
    go_enter Try.func43, Try.ntmps43
    go_wp2
    refine bodyPost_ret_by (results_row_tmp rfl _ _ w.heap.size 59 _ (0, 0) _ rfl (heap_alloc_new w _) Try.underlying59 rfl ownsize) rfl ?_
    exact ⟨rfl, Turn.alloc [] w _⟩
  all_goals
    go_enter Try.func43, Try.ntmps43
    go_wp2
    refine bodyPost_ret_by (results_row_tmp rfl _ _ w.heap.size 59 _ (0, 0) _ rfl (heap_alloc_new w _) Try.underlying59 rfl ownsize) rfl ?_
    exact ⟨rfl, Turn.alloc [] w _⟩

/-- May a record's id be that one. -/
def idB (o : OwnV) (d : Int) : Bool := if o.id then tidB d else decide (d = 0)

set_option maxRecDepth 100000 in
theorem ownId_calls (o : OwnV) (d : Int) (w : World) (hd : -9223372036854775808 ≤ d ∧ d ≤ 9223372036854775807) : Calls Try.prog 44 #[.agg o.cells, .int .i64 d] w fun e w' => e = .returned (.bool (idB o d)) ∧ Turn [] w w' := by
  obtain ⟨oi, oy, ol, om, op⟩ := o
  have C := Lib.hid (fun w => kindTid_calls d w hd)
  unfold OwnV.cells idB tidB
  dsimp only
  cases oi with
  | true =>
    rw [if_pos rfl]
    go_enter Try.func44, Try.ntmps44
    go_wp2_with fail
    refine (C.out _).mono ?_
    rintro e w1 ⟨rfl, rfl⟩
    go_wp2
    go_ret
    exact ⟨rfl, Turn.alloc [] w _⟩
  | false =>
    rw [if_neg (by simp)]
    go_enter Try.func44, Try.ntmps44
    go_wp2
    go_ret
    exact ⟨ret_bool (by rw [Bool.eq_iff_iff]; simp), Turn.alloc [] w _⟩

/-- May a record's parts be those. -/
def partsB (o : OwnV) (l : List Int) : Bool := decide (o.least ≤ (l.length : Int) ∧ (l.length : Int) ≤ o.most) && decide (∀ i, i < l.length → brokerB (l.getD i 0) = true ∧ (0 < i → l.getD (i - 1) 0 < l.getD i 0))

theorem part_bad {l : List Int} {n k : Nat} {z : Int} (hk : k < n) (hz : z = if k = 0 then 0 else l.getD (k - 1) 0) (h : ¬ (z < l.getD k 0 ∧ brokerB (l.getD k 0) = true)) :
    decide (∀ i, i < n → brokerB (l.getD i 0) = true ∧ (0 < i → l.getD (i - 1) 0 < l.getD i 0)) = false := by
  refine decide_eq_false (fun h1 => h ?_)
  obtain ⟨h2, h3⟩ := h1 k hk
  refine ⟨?_, h2⟩
  by_cases e : k = 0
  · rw [hz, if_pos e]
    have := of_decide_eq_true h2
    omega
  · rw [hz, if_neg e]
    exact h3 (by omega)

theorem part_next {l : List Int} {k : Nat} {z : Int} (hz : z = if k = 0 then 0 else l.getD (k - 1) 0) (hall : ∀ i, i < k → brokerB (l.getD i 0) = true ∧ (0 < i → l.getD (i - 1) 0 < l.getD i 0)) (h : z < l.getD k 0 ∧ brokerB (l.getD k 0) = true) :
    ∀ i, i < k + 1 → brokerB (l.getD i 0) = true ∧ (0 < i → l.getD (i - 1) 0 < l.getD i 0) := by
  intro i hi
  by_cases e : i = k
  · subst e
    refine ⟨h.2, fun h0 => ?_⟩
    rw [hz, if_neg (by omega)] at h
    exact h.1
  · exact hall i (by omega)

set_option maxHeartbeats 2000000 in
set_option maxRecDepth 100000 in
theorem ownParts_calls (o : OwnV) {w : World} {ao : Option Addr} {c : Nat} {l : List Int} (h : Il w ao c l) : Calls Try.prog 45 #[.agg o.cells, .slice ao l.length c] w fun e w' => e = .returned (.bool (partsB o l)) ∧ Turn [] w w' := by
  have hlen := h.len
  have H := Lib.hid h
  obtain ⟨oi, oy, ol, om, op⟩ := o
  unfold OwnV.cells partsB
  dsimp only
  obtain ⟨n, hn⟩ : ∃ n, n = l.length := ⟨_, rfl⟩
  have HN := Lib.hid hn
  rw [← hn] at hlen ⊢
  clear h hn
  by_cases h1 : (n : Int) < ol
  · have HB : Hid (decide (ol ≤ (n : Int) ∧ (n : Int) ≤ om) = false) := Lib.hid (decide_eq_false (by omega))
    rw [HB.out, Bool.false_and]
    go_enter Try.func45, Try.ntmps45
    go_wp2
    go_ret
    exact ⟨ret_bool rfl, Turn.alloc [] w _⟩
  by_cases h2 : om < (n : Int)
  · have HB : Hid (decide (ol ≤ (n : Int) ∧ (n : Int) ≤ om) = false) := Lib.hid (decide_eq_false (by omega))
    rw [HB.out, Bool.false_and]
    go_enter Try.func45, Try.ntmps45
    go_wp2
    go_ret
    exact ⟨ret_bool rfl, Turn.alloc [] w _⟩
  have HB : Hid (decide (ol ≤ (n : Int) ∧ (n : Int) ≤ om) = true) := Lib.hid (decide_eq_true (by omega))
  rw [HB.out, Bool.true_and]
  obtain ⟨ans, ha⟩ : ∃ ans, ans = decide (∀ i, i < n → brokerB (l.getD i 0) = true ∧ (0 < i → l.getD (i - 1) 0 < l.getD i 0)) := ⟨_, rfl⟩
  have HA := Lib.hid ha
  rw [← ha]
  clear ha HB
  go_enter Try.func45, Try.ntmps45
  go_wp2_with fail
  go_loop [5, 22] (fun v vi => ∃ (k : Nat) (z : Int), k ≤ n ∧ vi = .int .i64 (k : Int) ∧ v = .int .i64 z ∧ (z = if k = 0 then 0 else l.getD (k - 1) 0) ∧ (∀ i, i < k → brokerB (l.getD i 0) = true ∧ (0 < i → l.getD (i - 1) 0 < l.getD i 0))) (fun _ vi => n - (intOf vi).toNat)
  case atStart => exact ⟨0, 0, by omega, rfl, rfl, rfl, fun i hi => by omega⟩
  case round =>
    obtain ⟨k, z, hk, rfl, rfl, hz, hall⟩ := hrel
    have HL := Lib.hid hall
    have HZ := Lib.hid hz
    clear hall hz
    by_cases hkn : k < n
    · have hkl : k < l.length := by rw [← HN.out]; exact hkn
      obtain ⟨b, off, rfl, -, hat⟩ := (H.out.turn (Turn.alloc [] w (.cells #[.bool oi, .bool oy, .int .i64 ol, .int .i64 om, .int .i64 op] 59))).at (by intro e; rw [e] at hkl; simp at hkl)
      have h0 := hat k hkl
      have C := Lib.hid (fun w => kindBroker_calls (l.getD k 0) w)
      have hb : 0 ≤ (k : Int) ∧ (k : Int) < (n : Int) := by omega
      have HB := Lib.hid (fun h => HA.out.trans (part_bad hkn HZ.out h))
      have HX := Lib.hid (fun h => part_next HZ.out HL.out h)
      have HY : Hid (l.getD k 0 = if k + 1 = 0 then 0 else l.getD (k + 1 - 1) 0) := Lib.hid (by rw [if_neg (by omega), Nat.add_sub_cancel])
      obtain ⟨y, hy⟩ : ∃ y, y = l.getD k 0 := ⟨_, rfl⟩
      rw [← hy] at h0 C HB HX HY
      clear hat hy
      by_cases hyz : y ≤ z
      · have HF := Lib.hid (HB.out (fun h => by omega))
        clear HB HX C
        go_wp2
        go_ret
        exact ⟨ret_bool HF.out.symm, Turn.alloc [] w _⟩
      · cases hr : brokerB y with
        | true =>
          have HN2 := Lib.hid (HX.out ⟨by omega, hr⟩)
          rw [hr] at C
          clear HB HX hr
          go_wp2_with fail
          refine (C.out _).mono ?_
          rintro e w1 ⟨rfl, rfl⟩
          go_wp2
          go_round
          case rel => exact ⟨k + 1, y, by omega, by go_num, rfl, HY.out, HN2.out⟩
          case measure => simp [intOf]; omega
        | false =>
          have HF := Lib.hid (HB.out (fun h => by rw [hr] at h; simp at h))
          rw [hr] at C
          clear HB HX hr
          go_wp2_with fail
          refine (C.out _).mono ?_
          rintro e w1 ⟨rfl, rfl⟩
          go_wp2
          go_ret
          exact ⟨ret_bool HF.out.symm, Turn.alloc [] w _⟩
    · have hkk : k = n := by omega
      have HF : Hid (ans = true) := Lib.hid (by rw [HA.out]; exact decide_eq_true (fun i hi => HL.out i (by omega)))
      clear hkk HL HZ
      go_wp2
      go_ret
      exact ⟨ret_bool HF.out.symm, Turn.alloc [] w _⟩

/-- May a record's puts be those. -/
def oputsB (o : OwnV) (l : List (ByteArray × ByteArray)) : Bool := decide ((l.length : Int) ≤ o.puts) && l.all putB

theorem oputs_bad {l : List (ByteArray × ByteArray)} {k : Nat} (hk : k < l.length) (h2 : putB (l.getD k putNone) = false) : l.all putB = false := by
  have e : l.getD k putNone = l[k] := by simp [List.getD, hk]
  rw [e] at h2
  rw [List.all_eq_false]
  exact ⟨l[k], List.getElem_mem hk, by rw [h2]; simp⟩

set_option maxHeartbeats 2000000 in
set_option maxRecDepth 100000 in
theorem ownPuts_calls (o : OwnV) {w : World} {ao : Option Addr} {c : Nat} {l : List (ByteArray × ByteArray)} (h : Ps w ao c l) : Calls Try.prog 46 #[.agg o.cells, .slice ao l.length c] w fun e w' => e = .returned (.bool (oputsB o l)) ∧ Turn [] w w' := by
  have hlen := h.len
  have H := Lib.hid h
  obtain ⟨oi, oy, ol, om, op⟩ := o
  unfold OwnV.cells oputsB
  dsimp only
  obtain ⟨n, hn⟩ : ∃ n, n = l.length := ⟨_, rfl⟩
  have HN := Lib.hid hn
  rw [← hn] at hlen ⊢
  clear h hn
  by_cases h1 : op < (n : Int)
  · have HB : Hid (decide ((n : Int) ≤ op) = false) := Lib.hid (decide_eq_false (by omega))
    rw [HB.out, Bool.false_and]
    go_enter Try.func46, Try.ntmps46
    go_wp2
    go_ret
    exact ⟨ret_bool rfl, Turn.alloc [] w _⟩
  have HB : Hid (decide ((n : Int) ≤ op) = true) := Lib.hid (decide_eq_true (by omega))
  rw [HB.out, Bool.true_and]
  obtain ⟨w1, hw1⟩ : ∃ w1, w1 = w.alloc (.cells #[.bool oi, .bool oy, .int .i64 ol, .int .i64 om, .int .i64 op] 59) := ⟨_, rfl⟩
  have T1 : Hid (Turn [] w w1) := Lib.hid (by rw [hw1]; exact Turn.alloc [] w _)
  go_enter Try.func46, Try.ntmps46
  go_wp2_with fail
  rw [← hw1]
  clear hw1
  go_loopw [14] (fun vi wx => ∃ k : Nat, k ≤ n ∧ vi = .int .i64 (k : Int) ∧ (l.take k).all putB = true ∧ Turn [] w wx) (fun vi _ => n - (intOf vi).toNat)
  case atStart => exact ⟨0, by omega, rfl, rfl, T1.out⟩
  case round =>
    obtain ⟨k, hk, rfl, hall, ht⟩ := hrel
    have HA := Lib.hid hall
    have T := Lib.hid ht
    clear hall ht
    by_cases hkn : k < n
    · have hkl : k < l.length := by rw [← HN.out]; exact hkn
      obtain ⟨b, off, rfl, -, hat⟩ := (H.out.turn T.out).at (by intro e; rw [e] at hkl; simp at hkl)
      obtain ⟨h0, h1, hs0, -⟩ := hat k hkl
      have C := Lib.hid (fun w => kindPut_calls (l.getD k putNone).1 (l.getD k putNone).2 w)
      have HB := Lib.hid (fun h => oputs_bad hkl h)
      have HX := Lib.hid (fun h => puts_next hkl HA.out h)
      obtain ⟨q, hq⟩ : ∃ q, q = (l.getD k putNone).1 := ⟨_, rfl⟩
      obtain ⟨y, hy⟩ : ∃ y, y = (l.getD k putNone).2 := ⟨_, rfl⟩
      have hqy : l.getD k putNone = (q, y) := by rw [hq, hy]
      rw [← hq] at h0 C
      rw [← hy] at h1 C
      rw [hqy] at HB HX
      have hb : 0 ≤ (k : Int) ∧ (k : Int) < (n : Int) := by omega
      clear hat hq hy hqy hs0
      obtain ⟨r, hr⟩ : ∃ r, r = putB (q, y) := ⟨_, rfl⟩
      rw [← hr] at C HB HX
      clear hr
      cases r with
      | true =>
        go_wp2_with fail
        refine (C.out _).mono ?_
        rintro e w2 ⟨rfl, t2⟩
        have T2 := Lib.hid ((T.out.trans (Turn.alloc [] wr (.cells #[.string q, .string y] 29)) (by simp)).trans t2 (by simp))
        have HX2 := Lib.hid (HX.out trivial)
        clear t2 C HB HX
        go_wp2
        go_roundw
        case rel => exact ⟨k + 1, by omega, by go_num, HX2.out, T2.out⟩
        case measure => simp [intOf]; omega
      | false =>
        go_wp2_with fail
        refine (C.out _).mono ?_
        rintro e w2 ⟨rfl, t2⟩
        have T2 := Lib.hid ((T.out.trans (Turn.alloc [] wr (.cells #[.string q, .string y] 29)) (by simp)).trans t2 (by simp))
        have HB2 := Lib.hid (HB.out trivial)
        clear t2 C HB HX
        go_wp2
        go_ret
        exact ⟨ret_bool HB2.out.symm, T2.out⟩
    · have hkk : k = n := by omega
      have hall : l.all putB = true := by have := HA.out; rwa [hkk, HN.out, List.take_length] at this
      have HO := Lib.hid hall
      clear hall HA hkk
      go_wp2
      go_ret
      exact ⟨ret_bool HO.out.symm, T.out⟩

end Go.Proofs.Ytanjbbmgpodbgaa
