/-
  What a bag of numbers tells: New, Count, Len, Kinds, At, Each.
-/
import Derived.Test.YtikbldnekehodaaBagI
namespace Go.Proofs.Ytikbldnekehodaa
open Go.RowKit

theorem newI_nil (w : World) : Calls Try.prog 14 #[.nilFunc] w fun e w' => e = .returned (.pointer none) ∧ w' = w := by
  have q : (binOp .eql 24 .nilFunc .nilFunc).run Try.prog w = .ok (.bool true) w := by kernel_rfl
  go_enter Try.func14, Try.ntmps14
  go_wp2
  go_ret
  exact ⟨rfl, rfl⟩

set_option maxHeartbeats 1000000 in
set_option maxRecDepth 100000 in
theorem newI (kc : FuncId) (cap : Array Value) (w : World) : Calls Try.prog 14 #[.func (.func kc) #[] cap] w fun e w' => e = .returned (.pointer (some ⟨w.heap.size, 0, none⟩)) ∧ BagI w' w.heap.size (.func (.func kc) #[] cap) (.slice none 0 0) [] ∧ Turn [] w w' := by
  go_enter Try.func14, Try.ntmps14
  go_wp2_with fail
  rw [eq_nilFunc]
  go_wp2_with fail
  go_ret
  exact ⟨rfl, ⟨heap_alloc_new w _, World.ownsRow_nil _ _ _ _, (by intro e; cases e), by simp, by simp⟩, Turn.alloc [] w _⟩

set_option maxHeartbeats 1000000 in
set_option maxRecDepth 100000 in
theorem kindsI {w : World} {b : Nat} {fv v : Value} {K : List (Int × Int)} (h : BagI w b fv v K) : Calls Try.prog 20 #[.pointer (some ⟨b, 0, none⟩)] w fun e w' => e = .returned (.int .i64 (K.length : Int)) ∧ w' = w := by
  obtain ⟨ao, cp, rfl, hle, hmx, -⟩ := h.kinds
  obtain ⟨c0, c1⟩ := h.cells
  obtain ⟨n, hn⟩ : ∃ n, n = K.length := ⟨_, rfl⟩
  rw [← hn] at c1 ⊢
  clear h hn hle
  go_enter Try.func20, Try.ntmps20
  go_wp2
  go_ret
  exact ⟨rfl, rfl⟩

/-- How many in all. -/
def sumK (K : List (Int × Int)) : Int := K.foldl (fun a p => plusZ a p.2) 0

set_option maxHeartbeats 1000000 in
set_option maxRecDepth 100000 in
theorem countI {w : World} {b kc : Nat} {cap : Array Value} {v : Value} {K : List (Int × Int)} {c : Int → Int → Int} {ok : World → Prop} (h : BagI w b (.func (.func kc) #[] cap) v K) (hc : CmpOk kc cap c ok) (hok : ok w) {x : Int} (hx : inI64 x) {m : Nat} (hm : m ≤ K.length)
    (hlo : ∀ i (hi : i < K.length), i < m → 0 < c x K[i].1) (hhi : ∀ i (hi : i < K.length), m ≤ i → c x K[i].1 ≤ 0) :
    Calls Try.prog 16 #[.pointer (some ⟨b, 0, none⟩), .int .i64 x] w fun e w' => e = .returned (.int .i64 (if m < K.length ∧ c x (K.getD m (0, 0)).1 = 0 then (K.getD m (0, 0)).2 else 0)) ∧ Turn [] w w' := by
  have FC := Lib.hid (find_calls h hc hok hx hm hlo hhi)
  by_cases hf : m < K.length ∧ c x (K.getD m (0, 0)).1 = 0
  · rw [if_pos hf]
    have e1 : (decide (m < K.length) && (c x (K.getD m (0, 0)).1 == 0)) = true := by rw [hf.2]; simp [hf.1]
    rw [e1] at FC
    have H := Lib.hid h
    obtain ⟨hml, -⟩ := hf
    have hgd : K.getD m (0, 0) = K[m] := by simp [List.getD, hml]
    rw [hgd]
    obtain ⟨y, hy⟩ : ∃ y, y = K[m].2 := ⟨_, rfl⟩
    rw [← hy]
    clear h hc hok hlo hhi hx
    go_enter Try.func16, Try.ntmps16
    go_wp2_with fail
    refine FC.out.mono ?_
    rintro e w1 ⟨rfl, t1⟩
    have h1 := H.out.turn t1 (by simp) (fun _ _ => by simp)
    obtain ⟨ao, cp, rfl, hle, hmx, hat⟩ := h1.kinds
    obtain ⟨g, rfl, -, hk1⟩ := hat m hml
    obtain ⟨c0, c1⟩ := h1.cells
    obtain ⟨n, hn⟩ : ∃ n, n = K.length := ⟨_, rfl⟩
    have hfew := h1.few
    rw [← hy] at hk1
    rw [← hn] at c1 hml hle hfew
    have hb : 0 ≤ (m : Int) ∧ (m : Int) < (n : Int) := by omega
    have T1 := Lib.hid t1
    clear hat h1 hy hn t1 H FC hm hgd e1
    go_wp2
    go_ret
    exact ⟨rfl, T1.out⟩
  · rw [if_neg hf]
    have e1 : (decide (m < K.length) && (c x (K.getD m (0, 0)).1 == 0)) = false := by
      rw [Bool.and_eq_false_iff]
      by_cases h1 : m < K.length
      · exact .inr (by simpa using fun h2 => hf ⟨h1, h2⟩)
      · exact .inl (by simpa using h1)
    rw [e1] at FC
    clear h hc hok hlo hhi hx hf e1
    go_enter Try.func16, Try.ntmps16
    go_wp2_with fail
    refine FC.out.mono ?_
    rintro e w1 ⟨rfl, t1⟩
    have T1 := Lib.hid t1
    clear t1 FC
    go_wp2
    go_ret
    exact ⟨rfl, T1.out⟩

theorem sumK_nonneg : ∀ (K : List (Int × Int)) (a : Int), (∀ p ∈ K, 1 ≤ p.2 ∧ p.2 ≤ 9223372036854775807) → 0 ≤ a ∧ a ≤ 9223372036854775807 → 0 ≤ K.foldl (fun a p => plusZ a p.2) a ∧ K.foldl (fun a p => plusZ a p.2) a ≤ 9223372036854775807
  | [], a, _, ha => ha
  | p :: K, a, h, ha => by
    rw [List.foldl_cons]
    refine sumK_nonneg K _ (fun q hq => h q (by simp [hq])) ?_
    have := h p (by simp)
    unfold plusZ
    split <;> omega

set_option maxHeartbeats 1000000 in
set_option maxRecDepth 100000 in
theorem lenI {w : World} {b : Nat} {fv v : Value} {K : List (Int × Int)} (h : BagI w b fv v K) : Calls Try.prog 17 #[.pointer (some ⟨b, 0, none⟩)] w fun e w' => e = .returned (.int .i64 (sumK K)) ∧ Turn [] w w' := by
  obtain ⟨ao, cp, rfl, hle, hmx, hat⟩ := h.kinds
  obtain ⟨c0, c1⟩ := h.cells
  obtain ⟨n, hn⟩ : ∃ n, n = K.length := ⟨_, rfl⟩
  have hfew := h.few
  have HN := Lib.hid hn
  have HAT := Lib.hid hat
  have HNU := Lib.hid h.nums
  rw [← hn] at c1 hle hfew
  clear h hn hat
  go_enter Try.func17, Try.ntmps17
  go_wp2_with fail
  go_loopw [3, 12] (fun va vk wx => ∃ (k : Nat) (a : Int), k ≤ n ∧ vk = .int .i64 (k : Int) ∧ va = .int .i64 a ∧ a = sumK (K.take k) ∧ wx = w) (fun _ vk _ => n - (intOf vk).toNat)
  case atStart => exact ⟨0, 0, by omega, rfl, rfl, by simp [sumK], rfl⟩
  case round =>
    obtain ⟨k, a, hk, rfl, rfl, ha, rfl⟩ := hrel
    by_cases hkn : k < n
    · have hkl : k < K.length := by rw [← HN.out]; exact hkn
      obtain ⟨g, rfl, -, hk1⟩ := HAT.out k hkl
      have hp := HNU.out K[k] (List.getElem_mem hkl)
      have hab := sumK_nonneg (K.take k) 0 (fun p hp => (HNU.out p (List.mem_of_mem_take hp)).2) (by omega)
      obtain ⟨y, hy⟩ : ∃ y, y = K[k].2 := ⟨_, rfl⟩
      have HA : Hid (plusZ a y = sumK (K.take (k + 1))) := Lib.hid (by
        rw [List.take_succ_eq_append_getElem hkl, ha, hy]
        unfold sumK
        rw [List.foldl_append]
        rfl)
      have ha2 : 0 ≤ a ∧ a ≤ 9223372036854775807 := by rw [ha]; exact hab
      have PC := Lib.hid (plus_calls a y ha2 (by rw [hy]; omega) wr)
      rw [← hy] at hk1
      have hb : 0 ≤ (k : Int) ∧ (k : Int) < (n : Int) := by omega
      clear ha hab hp hy ha2
      go_wp2_with fail
      refine PC.out.mono ?_
      rintro e w' ⟨rfl, rfl⟩
      clear PC
      go_wp2
      go_roundw
      case rel => exact ⟨k + 1, plusZ a y, by omega, by go_num, rfl, HA.out, trivial⟩
      case measure => simp [intOf]; omega
    · have hkn2 : k = n := by omega
      have HA : Hid (a = sumK K) := Lib.hid (by rw [ha, hkn2, HN.out, List.take_length])
      clear ha hkn2
      go_wp2
      go_ret
      exact ⟨ret_int HA.out, Turn.refl _ _⟩

/-- Which is at a place. -/
def atK : List (Int × Int) → Int → Option Int
  | [], _ => none
  | p :: K, i => if i < p.2 then some p.1 else atK K (i - p.2)

theorem atI_neg {b : Nat} (i : Int) (hi : i < 0) (w : World) : Calls Try.prog 19 #[.pointer (some ⟨b, 0, none⟩), .int .i64 i] w fun e w' => e = .returned (.tuple #[.int .i64 0, .bool false]) ∧ w' = w := by
  have hi2 : decide (i < 0) = true := by simpa using hi
  go_enter Try.func19, Try.ntmps19
  go_wp2
  go_ret2
  exact ⟨rfl, rfl⟩

set_option maxHeartbeats 1000000 in
set_option maxRecDepth 100000 in
theorem atI {w : World} {b : Nat} {fv v : Value} {K : List (Int × Int)} (h : BagI w b fv v K) (i : Int) (hi : 0 ≤ i ∧ i ≤ 9223372036854775807) : Calls Try.prog 19 #[.pointer (some ⟨b, 0, none⟩), .int .i64 i] w fun e w' => e = .returned (.tuple #[.int .i64 ((atK K i).getD 0), .bool (atK K i).isSome]) ∧ w' = w := by
  have hi2 : decide (i < 0) = false := by simp; omega
  obtain ⟨ao, cp, rfl, hle, hmx, hat⟩ := h.kinds
  obtain ⟨c0, c1⟩ := h.cells
  obtain ⟨n, hn⟩ : ∃ n, n = K.length := ⟨_, rfl⟩
  have hfew := h.few
  have HN := Lib.hid hn
  have HAT := Lib.hid hat
  have HNU := Lib.hid h.nums
  obtain ⟨z, hz⟩ : ∃ z, z = atK K i := ⟨_, rfl⟩
  have HZ := Lib.hid hz
  rw [← hn] at c1 hle hfew
  rw [← hz]
  clear h hn hat hz
  go_enter Try.func19, Try.ntmps19
  go_wp2_with fail
  go_loopw [1, 20] (fun vi vk wx => ∃ (k : Nat) (j : Int), k ≤ n ∧ vk = .int .i64 (k : Int) ∧ vi = .int .i64 j ∧ (0 ≤ j ∧ j ≤ 9223372036854775807) ∧ z = atK (K.drop k) j ∧ wx = w) (fun _ vk _ => n - (intOf vk).toNat)
  case atStart => exact ⟨0, i, by omega, rfl, rfl, hi, HZ.out, rfl⟩
  case round =>
    obtain ⟨k, j, hk, rfl, rfl, hj, hzk, rfl⟩ := hrel
    clear hi2 hi
    by_cases hkn : k < n
    · have hkl : k < K.length := by rw [← HN.out]; exact hkn
      obtain ⟨g, rfl, hk0, hk1⟩ := HAT.out k hkl
      have hp := HNU.out K[k] (List.getElem_mem hkl)
      rw [List.drop_eq_getElem_cons hkl] at hzk
      obtain ⟨x, hx⟩ : ∃ x, x = K[k].1 := ⟨_, rfl⟩
      obtain ⟨y, hy⟩ : ∃ y, y = K[k].2 := ⟨_, rfl⟩
      rw [← hx] at hk0
      rw [← hy] at hk1 hp
      have hb : 0 ≤ (k : Int) ∧ (k : Int) < (n : Int) := by omega
      by_cases hjy : j < y
      · have HE : Hid (z = some x) := Lib.hid (by rw [hzk, hx]; unfold atK; rw [if_pos (by rw [← hy]; exact hjy)])
        clear hzk hx hy hp
        go_wp2
        go_ret2
        exact ⟨by rw [HE.out]; rfl, rfl⟩
      · have HE : Hid (z = atK (K.drop (k + 1)) (j - y)) := Lib.hid (by rw [hzk, hy]; conv => lhs; unfold atK
                                                                        rw [if_neg (by rw [← hy]; exact hjy)])
        clear hzk hx hy
        go_wp2
        go_roundw
        case rel => exact ⟨k + 1, j - y, by omega, by go_num, by go_num, by omega, HE.out, trivial⟩
        case measure => simp [intOf]; omega
    · have HE : Hid (z = none) := Lib.hid (by rw [hzk, List.drop_eq_nil_of_le (by rw [← HN.out]; omega)]; rfl)
      clear hzk
      go_wp2
      go_ret2
      exact ⟨by rw [HE.out]; rfl, rfl⟩

theorem Try.introw : (Try.prog.info? 3).map (fun i => (i.zero, i.size, i.bytes)) = some (some (.int .i64 0), 1, 8) := by kernel_rfl

theorem make_ints (w : World) (n : Nat) (hn : n ≤ 1000000) : (Instr.makeSlice 28 (.int .i64 (n : Int)) (.int .i64 (n : Int))).run Try.prog w = .ok (.slice (some ⟨w.heap.size, 0, none⟩) n n) (w.alloc (.cells (madeCells #[.int .i64 0] n) 3)) := by
  obtain ⟨i0, hi, hz0, hz1, hz2⟩ := info_parts Try.introw
  have h := run_make (P := Try.prog) w 28 3 i0 (.int .i64 0) Try.underlying28 hi hz0 .i64 .i64 (n : Int) (n : Int) (by omega) (by omega) (by rw [hz2]; omega) (by omega)
  rw [hz1] at h
  simp only [Int.toNat_natCast, Nat.mul_one] at h
  exact h

/-- The first k of the things, noughts behind them. -/
def firsts (K : List (Int × Int)) (n k : Nat) : List Value := (K.take k).map (fun p => Value.int .i64 p.1) ++ List.replicate (n - k) (.int .i64 0)

theorem firsts_set {K : List (Int × Int)} {k : Nat} (h : k < K.length) : (firsts K K.length k).set k (.int .i64 K[k].1) = firsts K K.length (k + 1) := by
  have hl : ((K.take k).map (fun p => Value.int .i64 p.1)).length = k := by simp; omega
  unfold firsts
  rw [List.set_append_right _ _ (by omega), hl, Nat.sub_self, List.take_succ_eq_append_getElem h]
  obtain ⟨m, hm⟩ : ∃ m, K.length - k = m + 1 := ⟨K.length - k - 1, by omega⟩
  rw [hm, List.replicate_succ, show K.length - (k + 1) = m by omega]
  simp only [List.set_cons_zero, List.map_append, List.map_cons, List.map_nil, List.append_assoc, List.cons_append, List.nil_append]

set_option maxHeartbeats 2000000 in
set_option maxRecDepth 100000 in
theorem eachI {w : World} {b : Nat} {fv v : Value} {K : List (Int × Int)} (h : BagI w b fv v K) : Calls Try.prog 18 #[.pointer (some ⟨b, 0, none⟩)] w fun e w' =>
    e = .returned (.slice (some ⟨w.heap.size, 0, none⟩) K.length K.length) ∧ w'.ownsRow w.heap.size 3 1 (.slice (some ⟨w.heap.size, 0, none⟩) K.length K.length) K.length (K.map fun p => Value.int .i64 p.1) ∧ Below w.heap.size w w' := by
  obtain ⟨n, hn⟩ : ∃ n, n = K.length := ⟨_, rfl⟩
  have H := Lib.hid h
  have HN := Lib.hid hn
  have hfew := h.few
  obtain ⟨ao0, cp0, rfl, hle0, hmx0, -⟩ := h.kinds
  obtain ⟨c0, c1⟩ := h.cells
  rw [← hn] at hfew c1 hle0 ⊢
  clear h hn
  have mk := make_ints w n (by omega)
  have c13 : (w.alloc (.cells (madeCells #[.int .i64 0] n) 3)).cell? ⟨b, 1, none⟩ = some (.slice ao0 n cp0) := (Turn.alloc [] w _).cell c1 (by simp)
  go_enter Try.func18, Try.ntmps18
  go_wp2_with fail
  obtain ⟨w3, hw3⟩ : ∃ w3, w3 = w.alloc (.cells (madeCells #[.int .i64 0] n) 3) := ⟨_, rfl⟩
  obtain ⟨q, hq⟩ : ∃ q, q = w.heap.size := ⟨_, rfl⟩
  have N3 : Hid (Below q w w3) := Lib.hid (by rw [hw3, hq]; exact (Turn.alloc [] w _).belowAll)
  have M3 : Hid (w3.ownsRow q 3 1 (.slice (some ⟨q, 0, none⟩) n n) n (firsts K n 0)) := Lib.hid (by
    rw [hw3, hq]
    refine ⟨by simp [firsts], .inr ⟨w.heap.size, n, madeCells #[.int .i64 0] n, rfl, Nat.le_refl _, heap_alloc_new w _, Nat.le_refl _, by unfold maxLen; omega, by simp [madeCells], ?_⟩⟩
    rw [toList_madeCells_one]
    simp [firsts])
  have HQ := Lib.hid hq
  rw [← hw3, ← hq]
  clear mk c1 c0 c13 hw3 hq
  go_loopw [4, 18] (fun _ v18 wr => ∃ (k : Nat), k ≤ n ∧ v18 = .int .i64 (k : Int) ∧ wr.ownsRow q 3 1 (.slice (some ⟨q, 0, none⟩) n n) n (firsts K n k) ∧ Below q w wr) (fun _ v18 _ => n - (intOf v18).toNat)
  case atStart => exact ⟨0, by omega, rfl, M3.out, N3.out⟩
  case round =>
    obtain ⟨k, hk, rfl, hmd, hbel⟩ := hrel
    have HM := Lib.hid hmd
    have HB := Lib.hid hbel
    clear hmd hbel M3 N3
    by_cases hlt : k < n
    · have hkl : k < K.length := by rw [← HN.out]; exact hlt
      have hr := H.out.turn (Turn.of_below (by have h8 := HB.out; rw [HQ.out] at h8; exact h8) []) (by simp) (fun _ _ => by simp)
      obtain ⟨ao, cp, he, -, -, hat⟩ := hr.kinds
      obtain ⟨g, rfl, hk0, -⟩ := hat k hkl
      obtain ⟨d0, d1⟩ := hr.cells
      rw [he, ← HN.out] at d1
      obtain ⟨x, hx⟩ : ∃ x, x = K[k].1 := ⟨_, rfl⟩
      rw [← hx] at hk0
      have hb : 0 ≤ (k : Int) ∧ (k : Int) < (n : Int) := by omega
      have hf5 := HM.out.frozenAt k
      obtain ⟨u, hu⟩ : ∃ u, wr.cell? ⟨q, k, none⟩ = some u := by
        rw [HM.out.cellAt k (by omega)]
        exact ⟨_, List.getElem?_eq_getElem (by have := HM.out.1; omega)⟩
      have M6 : Hid ((wr.setCell ⟨q, k, none⟩ (.int .i64 x)).ownsRow q 3 1 (.slice (some ⟨q, 0, none⟩) n n) n (firsts K n (k + 1))) := Lib.hid (by
        have h1 := (HM.out.stored k (.int .i64 x)).1
        rw [hx, HN.out, firsts_set hkl] at h1
        rw [hx, HN.out]
        exact h1)
      have B6 := Lib.hid (HB.out.setCell (p := ⟨q, k, none⟩) (Nat.le_refl _) (.int .i64 x))
      clear hr he hat hx HM
      go_wp2
      go_roundw
      case rel => exact ⟨k + 1, by omega, by go_num, M6.out, B6.out⟩
      case measure => simp [intOf]; omega
    · obtain rfl : k = n := by omega
      have r3 : ¬ (k : Int) < (k : Int) := by omega
      have HR : Hid (wr.ownsRow q 3 1 (.slice (some ⟨q, 0, none⟩) k k) k (K.map fun p => Value.int .i64 p.1)) := Lib.hid (by
        have h1 := HM.out
        have e : firsts K k k = K.map fun p => Value.int .i64 p.1 := by
          unfold firsts
          rw [Nat.sub_self, List.replicate_zero, List.append_nil, HN.out, List.take_length]
        rw [e] at h1
        exact h1)
      go_wp2
      go_ret
      rw [HQ.out] at HR HB
      rw [HQ.out]
      exact ⟨rfl, HR.out, HB.out⟩

end Go.Proofs.Ytikbldnekehodaa
