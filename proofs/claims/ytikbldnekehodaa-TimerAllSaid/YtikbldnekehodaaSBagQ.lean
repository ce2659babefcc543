/-
  What a bag of texts tells: New, Count, Len, Kinds, At, Each.
-/
import Derived.Test.YtikbldnekehodaaSBagI
namespace Go.Proofs.Ytikbldnekehodaa.S
open Go.RowKit

set_option maxHeartbeats 1000000 in
set_option maxRecDepth 100000 in
theorem newI (kc : FuncId) (cap : Array Value) (w : World) : Calls Try.prog 32 #[.func (.func kc) #[] cap] w fun e w' => e = .returned (.pointer (some ⟨w.heap.size, 0, none⟩)) ∧ BagI w' w.heap.size (.func (.func kc) #[] cap) (.slice none 0 0) [] ∧ Turn [] w w' := by
  go_enter Try.func32, Try.ntmps32
  go_wp2_with fail
  rw [eq_nilFunc]
  go_wp2_with fail
  go_ret
  exact ⟨rfl, ⟨heap_alloc_new w _, World.ownsRow_nil _ _ _ _, (by intro e; cases e), by simp, by simp⟩, Turn.alloc [] w _⟩

set_option maxHeartbeats 1000000 in
set_option maxRecDepth 100000 in
theorem kindsI {w : World} {b : Nat} {fv v : Value} {K : List (ByteArray × Int)} (h : BagI w b fv v K) : Calls Try.prog 37 #[.pointer (some ⟨b, 0, none⟩)] w fun e w' => e = .returned (.int .i64 (K.length : Int)) ∧ w' = w := by
  obtain ⟨ao, cp, rfl, hle, hmx, -⟩ := h.kinds
  obtain ⟨c0, c1⟩ := h.cells
  obtain ⟨n, hn⟩ : ∃ n, n = K.length := ⟨_, rfl⟩
  rw [← hn] at c1 ⊢
  clear h hn hle
  go_enter Try.func37, Try.ntmps37
  go_wp2
  go_ret
  exact ⟨rfl, rfl⟩

/-- How many in all. -/
def sumK (K : List (ByteArray × Int)) : Int := K.foldl (fun a p => plusZ a p.2) 0

set_option maxHeartbeats 1000000 in
set_option maxRecDepth 100000 in
theorem countI {w : World} {b kc : Nat} {cap : Array Value} {v : Value} {K : List (ByteArray × Int)} {c : ByteArray → ByteArray → Int} {ok : World → Prop} (h : BagI w b (.func (.func kc) #[] cap) v K) (hc : CmpOk kc cap c ok) (hok : ok w) {x : ByteArray} (hx : okS x) {m : Nat} (hm : m ≤ K.length)
    (hlo : ∀ i (hi : i < K.length), i < m → 0 < c x K[i].1) (hhi : ∀ i (hi : i < K.length), m ≤ i → c x K[i].1 ≤ 0) :
    Calls Try.prog 35 #[.pointer (some ⟨b, 0, none⟩), .string x] w fun e w' => e = .returned (.int .i64 (if m < K.length ∧ c x (K.getD m (⟨#[]⟩, 0)).1 = 0 then (K.getD m (⟨#[]⟩, 0)).2 else 0)) ∧ Turn [] w w' := by
  have FC := Lib.hid (find_calls h hc hok hx hm hlo hhi)
  by_cases hf : m < K.length ∧ c x (K.getD m (⟨#[]⟩, 0)).1 = 0
  · rw [if_pos hf]
    have e1 : (decide (m < K.length) && (c x (K.getD m (⟨#[]⟩, 0)).1 == 0)) = true := by rw [hf.2]; simp [hf.1]
    rw [e1] at FC
    have H := Lib.hid h
    obtain ⟨hml, -⟩ := hf
    have hgd : K.getD m (⟨#[]⟩, 0) = K[m] := by simp [List.getD, hml]
    rw [hgd]
    obtain ⟨y, hy⟩ : ∃ y, y = K[m].2 := ⟨_, rfl⟩
    rw [← hy]
    clear h hc hok hlo hhi hx
    go_enter Try.func35, Try.ntmps35
    go_wp2_with fail
    refine FC.out.mono ?_
    rintro e w1 ⟨rfl, t1⟩
    have h1 := H.out.turn t1 (by simp) (fun _ _ => by simp)
    obtain ⟨ao, cp, rfl, hle, hmx, hat⟩ := h1.kinds
    obtain ⟨g, rfl, -, hk1⟩ := hat m hml
    obtain ⟨c0, c1⟩ := h1.cells
    obtain ⟨n, hn⟩ : ∃ n, n = K.length := ⟨_, rfl⟩
    have hfew := h1.few
    rw [← hy] at hk1
    rw [← hn] at c1 hml hle hfew
    have hb : 0 ≤ (m : Int) ∧ (m : Int) < (n : Int) := by omega
    have T1 := Lib.hid t1
    clear hat h1 hy hn t1 H FC hm hgd e1
    go_wp2
    go_ret
    exact ⟨rfl, T1.out⟩
  · rw [if_neg hf]
    have e1 : (decide (m < K.length) && (c x (K.getD m (⟨#[]⟩, 0)).1 == 0)) = false := by
      rw [Bool.and_eq_false_iff]
      by_cases h1 : m < K.length
      · exact .inr (by simpa using fun h2 => hf ⟨h1, h2⟩)
      · exact .inl (by simpa using h1)
    rw [e1] at FC
    clear h hc hok hlo hhi hx hf e1
    go_enter Try.func35, Try.ntmps35
    go_wp2_with fail
    refine FC.out.mono ?_
    rintro e w1 ⟨rfl, t1⟩
    have T1 := Lib.hid t1
    clear t1 FC
    go_wp2
    go_ret
    exact ⟨rfl, T1.out⟩

theorem sumK_nonneg : ∀ (K : List (ByteArray × Int)) (a : Int), (∀ p ∈ K, 1 ≤ p.2 ∧ p.2 ≤ 9223372036854775807) → 0 ≤ a ∧ a ≤ 9223372036854775807 → 0 ≤ K.foldl (fun a p => plusZ a p.2) a ∧ K.foldl (fun a p => plusZ a p.2) a ≤ 9223372036854775807
  | [], a, _, ha => ha
  | p :: K, a, h, ha => by
    rw [List.foldl_cons]
    refine sumK_nonneg K _ (fun q hq => h q (by simp [hq])) ?_
    have := h p (by simp)
    unfold plusZ
    split <;> omega

set_option maxHeartbeats 1000000 in
set_option maxRecDepth 100000 in
theorem lenI {w : World} {b : Nat} {fv v : Value} {K : List (ByteArray × Int)} (h : BagI w b fv v K) : Calls Try.prog 36 #[.pointer (some ⟨b, 0, none⟩)] w fun e w' => e = .returned (.int .i64 (sumK K)) ∧ Turn [] w w' := by
  obtain ⟨ao, cp, rfl, hle, hmx, hat⟩ := h.kinds
  obtain ⟨c0, c1⟩ := h.cells
  obtain ⟨n, hn⟩ : ∃ n, n = K.length := ⟨_, rfl⟩
  have hfew := h.few
  have HN := Lib.hid hn
  have HAT := Lib.hid hat
  have HNU := Lib.hid h.nums
  rw [← hn] at c1 hle hfew
  clear h hn hat
  go_enter Try.func36, Try.ntmps36
  go_wp2_with fail
  go_loopw [3, 12] (fun va vk wx => ∃ (k : Nat) (a : Int), k ≤ n ∧ vk = .int .i64 (k : Int) ∧ va = .int .i64 a ∧ a = sumK (K.take k) ∧ wx = w) (fun _ vk _ => n - (intOf vk).toNat)
  case atStart => exact ⟨0, 0, by omega, rfl, rfl, by simp [sumK], rfl⟩
  case round =>
    obtain ⟨k, a, hk, rfl, rfl, ha, rfl⟩ := hrel
    by_cases hkn : k < n
    · have hkl : k < K.length := by rw [← HN.out]; exact hkn
      obtain ⟨g, rfl, -, hk1⟩ := HAT.out k hkl
      have hp := HNU.out K[k] (List.getElem_mem hkl)
      have hab := sumK_nonneg (K.take k) 0 (fun p hp => (HNU.out p (List.mem_of_mem_take hp)).2) (by omega)
      obtain ⟨y, hy⟩ : ∃ y, y = K[k].2 := ⟨_, rfl⟩
      have HA : Hid (plusZ a y = sumK (K.take (k + 1))) := Lib.hid (by
        rw [List.take_succ_eq_append_getElem hkl, ha, hy]
        unfold sumK
        rw [List.foldl_append]
        rfl)
      have ha2 : 0 ≤ a ∧ a ≤ 9223372036854775807 := by rw [ha]; exact hab
      have PC := Lib.hid (plus_calls a y ha2 (by rw [hy]; omega) wr)
      rw [← hy] at hk1
      have hb : 0 ≤ (k : Int) ∧ (k : Int) < (n : Int) := by omega
      clear ha hab hp hy ha2
      go_wp2_with fail
      refine PC.out.mono ?_
      rintro e w' ⟨rfl, rfl⟩
      clear PC
      go_wp2
      go_roundw
      case rel => exact ⟨k + 1, plusZ a y, by omega, by go_num, rfl, HA.out, trivial⟩
      case measure => simp [intOf]; omega
    · have hkn2 : k = n := by omega
      have HA : Hid (a = sumK K) := Lib.hid (by rw [ha, hkn2, HN.out, List.take_length])
      clear ha hkn2
      go_wp2
      go_ret
      exact ⟨ret_int HA.out, Turn.refl _ _⟩

/-- Which is at a place. -/
def atK : List (ByteArray × Int) → Int → Option ByteArray
  | [], _ => none
  | p :: K, i => if i < p.2 then some p.1 else atK K (i - p.2)

theorem atI_neg {b : Nat} (i : Int) (hi : i < 0) (w : World) : Calls Try.prog 41 #[.pointer (some ⟨b, 0, none⟩), .int .i64 i] w fun e w' => e = .returned (.tuple #[.string ⟨#[]⟩, .bool false]) ∧ w' = w := by
  have hi2 : decide (i < 0) = true := by simpa using hi
  go_enter Try.func41, Try.ntmps41
  go_wp2
  go_ret2
  exact ⟨rfl, rfl⟩

set_option maxHeartbeats 1000000 in
set_option maxRecDepth 100000 in
theorem atI {w : World} {b : Nat} {fv v : Value} {K : List (ByteArray × Int)} (h : BagI w b fv v K) (i : Int) (hi : 0 ≤ i ∧ i ≤ 9223372036854775807) : Calls Try.prog 41 #[.pointer (some ⟨b, 0, none⟩), .int .i64 i] w fun e w' => e = .returned (.tuple #[.string ((atK K i).getD ⟨#[]⟩), .bool (atK K i).isSome]) ∧ w' = w := by
  have hi2 : decide (i < 0) = false := by simp; omega
  obtain ⟨ao, cp, rfl, hle, hmx, hat⟩ := h.kinds
  obtain ⟨c0, c1⟩ := h.cells
  obtain ⟨n, hn⟩ : ∃ n, n = K.length := ⟨_, rfl⟩
  have hfew := h.few
  have HN := Lib.hid hn
  have HAT := Lib.hid hat
  have HNU := Lib.hid h.nums
  obtain ⟨z, hz⟩ : ∃ z, z = atK K i := ⟨_, rfl⟩
  have HZ := Lib.hid hz
  rw [← hn] at c1 hle hfew
  rw [← hz]
  clear h hn hat hz
  go_enter Try.func41, Try.ntmps41
  go_wp2_with fail
  go_loopw [1, 20] (fun vi vk wx => ∃ (k : Nat) (j : Int), k ≤ n ∧ vk = .int .i64 (k : Int) ∧ vi = .int .i64 j ∧ (0 ≤ j ∧ j ≤ 9223372036854775807) ∧ z = atK (K.drop k) j ∧ wx = w) (fun _ vk _ => n - (intOf vk).toNat)
  case atStart => exact ⟨0, i, by omega, rfl, rfl, hi, HZ.out, rfl⟩
  case round =>
    obtain ⟨k, j, hk, rfl, rfl, hj, hzk, rfl⟩ := hrel
    clear hi2 hi
    by_cases hkn : k < n
    · have hkl : k < K.length := by rw [← HN.out]; exact hkn
      obtain ⟨g, rfl, hk0, hk1⟩ := HAT.out k hkl
      have hp := HNU.out K[k] (List.getElem_mem hkl)
      rw [List.drop_eq_getElem_cons hkl] at hzk
      obtain ⟨x, hx⟩ : ∃ x, x = K[k].1 := ⟨_, rfl⟩
      obtain ⟨y, hy⟩ : ∃ y, y = K[k].2 := ⟨_, rfl⟩
      rw [← hx] at hk0
      rw [← hy] at hk1 hp
      have hb : 0 ≤ (k : Int) ∧ (k : Int) < (n : Int) := by omega
      by_cases hjy : j < y
      · have HE : Hid (z = some x) := Lib.hid (by rw [hzk, hx]; unfold atK; rw [if_pos (by rw [← hy]; exact hjy)])
        clear hzk hx hy hp
        go_wp2
        go_ret2
        exact ⟨by rw [HE.out]; rfl, rfl⟩
      · have HE : Hid (z = atK (K.drop (k + 1)) (j - y)) := Lib.hid (by rw [hzk, hy]; conv => lhs; unfold atK
                                                                        rw [if_neg (by rw [← hy]; exact hjy)])
        clear hzk hx hy
        go_wp2
        go_roundw
        case rel => exact ⟨k + 1, j - y, by omega, by go_num, by go_num, by omega, HE.out, trivial⟩
        case measure => simp [intOf]; omega
    · have HE : Hid (z = none) := Lib.hid (by rw [hzk, List.drop_eq_nil_of_le (by rw [← HN.out]; omega)]; rfl)
      clear hzk
      go_wp2
      go_ret2
      exact ⟨by rw [HE.out]; rfl, rfl⟩

end Go.Proofs.Ytikbldnekehodaa.S
