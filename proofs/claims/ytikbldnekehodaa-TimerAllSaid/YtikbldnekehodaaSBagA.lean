/-
  A bag of texts: change, Add.
-/
import Derived.Test.YtikbldnekehodaaSDel2
namespace Go.Proofs.Ytikbldnekehodaa.S
open Go.RowKit

/-- How many there are then. -/
def nowK (a n : Int) : Int := max (plusZ a n) 0

/-- What a change leaves. -/
def chgK (K : List (ByteArray × Int)) (m : Nat) (n : Int) : List (ByteArray × Int) := if nowK (K.getD m (⟨#[]⟩, 0)).2 n = 0 then delK K m else K.set m ((K.getD m (⟨#[]⟩, 0)).1, nowK (K.getD m (⟨#[]⟩, 0)).2 n)

theorem kcells_set : ∀ (K : List (ByteArray × Int)) (m : Nat) (h : m < K.length) (y : Int), kcells (K.set m (K[m].1, y)) = (kcells K).set (m * 2 + 1) (.int .i64 y)
  | p :: K, 0, _, y => rfl
  | p :: K, m + 1, h, y => by
    have ih := kcells_set K m (by simpa using h) y
    have e : kcells (p :: K) = .string p.1 :: .int .i64 p.2 :: kcells K := rfl
    have e2 : ∀ q Z, kcells (q :: Z) = .string q.1 :: .int .i64 q.2 :: kcells Z := fun _ _ => rfl
    rw [List.set_cons_succ, e2, e, show (m + 1) * 2 + 1 = (m * 2 + 1) + 1 + 1 by omega, List.set_cons_succ, List.set_cons_succ, ← ih]
    rfl

theorem delK_mem {K : List (ByteArray × Int)} {m : Nat} {p : ByteArray × Int} (h : p ∈ delK K m) : p ∈ K := by
  rcases List.mem_append.1 h with h1 | h1
  · exact List.mem_of_mem_take h1
  · exact List.mem_of_mem_drop h1

theorem nowK_bounds {a n : Int} (hn : inI64 n) : 0 ≤ nowK a n ∧ nowK a n ≤ 9223372036854775807 := by
  unfold nowK plusZ
  obtain ⟨h1, h2⟩ := hn
  split <;> omega

theorem owns_slice {w : World} {B e s n : Nat} {v : Value} {xs : List Value} (h : w.ownsRow B e s v n xs) : ∃ ao c, v = .slice ao n c := by
  rcases h.2 with ⟨rfl, h0⟩ | ⟨g, cap, cur, rfl, _⟩
  · subst h0
    exact ⟨none, 0, rfl⟩
  · exact ⟨_, cap, rfl⟩

/-- The kinds' slice is another one now. -/
theorem BagI.put {w w2 : World} {b : Nat} {fv v v2 : Value} {K K2 : List (ByteArray × Int)} (h : BagI w b fv v K) (t : Turn v.ownBlock.toList w w2) (hr : w2.ownsRow 0 93 2 v2 K2.length (kcells K2))
    (ho : v2.ownBlock = v.ownBlock ∨ ∀ k, v2.ownBlock = some k → w.heap.size ≤ k) (hn : ∀ p ∈ K2, okS p.1 ∧ 1 ≤ p.2 ∧ p.2 ≤ 9223372036854775807) (hf : K2.length ≤ 1000) :
    w2.heap[b]? = some (.cells #[fv, v] 89) ∧ BagI (w2.setCell ⟨b, 1, none⟩ v2) b fv v2 K2 ∧ Turn (b :: v.ownBlock.toList) w (w2.setCell ⟨b, 1, none⟩ v2) := by
  have hb : b ∉ v.ownBlock.toList := fun hm => h.apart (Option.mem_toList.1 hm)
  have hd := t.heap h.head hb
  have hbw := lt_of_heap h.head
  have hap : v2.ownBlock ≠ some b := by
    intro e
    rcases ho with h1 | h1
    · exact h.apart (by rw [← h1]; exact e)
    · have := h1 b e; omega
  have ts : Turn [b] w2 (w2.setCell ⟨b, 1, none⟩ v2) := Turn.setCell _ (by simp) _
  refine ⟨hd, ⟨by rw [block_set hd]; rfl, ownsRow_turn hr ts (fun k hk hm => hap (by rw [hk, List.mem_singleton.1 hm])), hap, hn, hf⟩, ?_⟩
  exact (t.mono (fun i hi => .inl (List.mem_cons_of_mem _ hi))).trans ts (fun i hi => .inl (by rw [List.mem_singleton.1 hi]; simp))

theorem cells_of_head {w : World} {b : Nat} {fv v : Value} {t : TypeId} (h : w.heap[b]? = some (.cells #[fv, v] t)) : w.cell? ⟨b, 0, none⟩ = some fv ∧ w.cell? ⟨b, 1, none⟩ = some v ∧ w.frozen? ⟨b, 1, none⟩ = false := by
  refine ⟨?_, ?_, unfrozen_of h⟩ <;> rw [cell_of_row _ _ _ _ _ _ h] <;> rfl

set_option maxHeartbeats 2000000 in
set_option maxRecDepth 100000 in
theorem changeI {w : World} {b : Nat} {fv v : Value} {K : List (ByteArray × Int)} (h : BagI w b fv v K) {m : Nat} (hm : m < K.length) {n : Int} (hn : inI64 n) :
    Calls Try.prog 61 #[.pointer (some ⟨b, 0, none⟩), .int .i64 (m : Int), .int .i64 n] w fun e w' =>
      ∃ v', e = .returned (.int .i64 (nowK (K.getD m (⟨#[]⟩, 0)).2 n)) ∧ BagI w' b fv v' (chgK K m n) ∧ v'.ownBlock = v.ownBlock ∧ Turn (b :: v.ownBlock.toList) w w' := by
  have hgd : K.getD m (⟨#[]⟩, 0) = K[m] := by simp [List.getD, hm]
  have hk := h.nums K[m] (List.getElem_mem hm)
  obtain ⟨y, hy⟩ : ∃ y, y = K[m].2 := ⟨_, rfl⟩
  obtain ⟨r, hr⟩ : ∃ r, r = nowK y n := ⟨_, rfl⟩
  have hrb := nowK_bounds (a := y) hn
  rw [← hr] at hrb
  have hfew := h.few
  obtain ⟨L, hL⟩ : ∃ L, L = K.length := ⟨_, rfl⟩
  have PC := Lib.hid (plus_calls y n (by rw [hy]; omega) hn w)
  obtain ⟨s, hs⟩ : ∃ s, s = plusZ y n := ⟨_, rfl⟩
  rw [← hs] at PC
  have hsr : max s 0 = r := by rw [hs, hr]; rfl
  have hchg : chgK K m n = if r = 0 then delK K m else K.set m (K[m].1, r) := by unfold chgK; rw [hgd, ← hy, ← hr]
  rw [hgd, ← hy, ← hr, hchg]
  have hb : 0 ≤ (m : Int) ∧ (m : Int) < (L : Int) := by omega
  by_cases hr0 : r = 0
  · rw [if_pos hr0]
    subst hr0
    have HDEL := Lib.hid (delete_calls h.row hfew hm)
    have H := Lib.hid h
    obtain ⟨ao, cap, rfl, hle, hmx, hat⟩ := h.kinds
    obtain ⟨g, rfl, -, hk1⟩ := hat m hm
    obtain ⟨c0, c1⟩ := h.cells
    rw [← hy] at hk1
    have HL := Lib.hid hL
    rw [← hL] at c1 hle hfew hm HDEL
    have HM := Lib.hid hm
    rw [show ((m + 1 : Nat) : Int) = (m : Int) + 1 by omega] at HDEL
    clear h hat hL hk hy hgd hchg hr hs hm
    go_enter Try.func61, Try.ntmps61
    go_wp2_with fail
    refine PC.out.mono ?_
    rintro e w1 ⟨rfl, rfl⟩
    clear PC
    go_wp2_with fail
    refine HDEL.out.mono ?_
    rintro e w2 ⟨v2, rfl, hr2, ho2, t2⟩
    obtain ⟨l2, hl2⟩ : ∃ l, l = (delK K m).length := ⟨_, rfl⟩
    obtain ⟨ao2, cp2, hv2⟩ := owns_slice hr2
    rw [← hl2] at hv2
    subst hv2
    obtain ⟨hd2, h3, t3⟩ := H.out.put t2 hr2 (.inl ho2) (fun p hp => H.out.nums p (delK_mem hp)) (by rw [delK_length (by rw [← HL.out]; exact HM.out), ← HL.out]; omega)
    obtain ⟨d0, d1, d2⟩ := cells_of_head hd2
    have H3 := Lib.hid h3
    have T3 := Lib.hid t3
    have HO := Lib.hid ho2
    clear hd2 h3 t3 hr2 ho2 t2 HDEL hl2
    go_wp2
    go_ret
    exact ⟨_, rfl, H3.out, HO.out, T3.out⟩
  · rw [if_neg hr0]
    have H := Lib.hid h
    have hst := h.row
    obtain ⟨-, ⟨-, h0⟩ | ⟨g, cap, cur, rfl, -, hg, hle, hmx, hsz, htk⟩⟩ := id h.row
    · omega
    have hk1 : w.cell? ⟨g, m * 2 + 1, none⟩ = some (.int .i64 y) := by
      obtain ⟨ao, cp, he, -, -, hat⟩ := h.kinds
      obtain ⟨g', rfl, -, h2⟩ := hat m hm
      simp only [Value.slice.injEq, Option.some.injEq, Addr.mk.injEq, true_and, and_true] at he
      rw [he.1, hy]
      exact h2
    obtain ⟨c0, c1⟩ := h.cells
    have hfz : w.frozen? ⟨g, m * 2 + 1, none⟩ = false := unfrozen_of hg
    have hgb : g ≠ b := fun e => h.apart (by rw [← e]; rfl)
    obtain ⟨w2, hw2⟩ : ∃ w2, w2 = w.setCell ⟨g, m * 2 + 1, none⟩ (.int .i64 r) := ⟨_, rfl⟩
    have ts : Turn [g] w w2 := by rw [hw2]; exact Turn.setCell _ (by simp) _
    have H3 : Hid (BagI w2 b fv (.slice (some ⟨g, 0, none⟩) K.length cap) (K.set m (K[m].1, r))) := Lib.hid (by
      refine ⟨ts.heap h.head (by simpa using fun e => hgb e.symm), ?_, h.apart, fun p hp => ?_, by rw [List.length_set]; exact hfew⟩
      · have h1 := (hst.stored (m * 2 + 1) (.int .i64 r)).1
        rw [← hw2] at h1
        rw [List.length_set, kcells_set K m hm r]
        exact h1
      · rcases List.mem_or_eq_of_mem_set hp with h1 | rfl
        · exact h.nums p h1
        · exact ⟨hk.1, by omega, hrb.2⟩)
    have T3 : Hid (Turn (b :: (Value.slice (some ⟨g, 0, none⟩) K.length cap).ownBlock.toList) w w2) := Lib.hid (ts.mono (fun i hi => .inl (by rw [List.mem_singleton.1 hi]; simp [Value.ownBlock])))
    have HW := Lib.hid hw2
    have hr1 : (r == 0) = false := by simpa using hr0
    rw [← hL] at c1 hle hfew
    have hL' := Lib.hid hL
    clear h hst hL hk hy hgd hchg hr hs ts hw2 hsz htk hg
    go_enter Try.func61, Try.ntmps61
    go_wp2_with fail
    refine PC.out.mono ?_
    rintro e w1 ⟨rfl, rfl⟩
    clear PC
    go_wp2
    rw [← HW.out]
    go_ret
    exact ⟨_, rfl, H3.out, rfl, T3.out⟩

theorem found_no {m l : Nat} {z : Int} (hf : ¬ (m < l ∧ z = 0)) : (decide (m < l) && (z == 0)) = false := by
  rw [Bool.and_eq_false_iff]
  by_cases h1 : m < l
  · exact .inr (by simpa using fun h2 => hf ⟨h1, h2⟩)
  · exact .inl (by simpa using h1)

set_option maxHeartbeats 2000000 in
set_option maxRecDepth 100000 in
/-- Add of what is there. -/
theorem addI_found {w : World} {b kc : Nat} {cap : Array Value} {v : Value} {K : List (ByteArray × Int)} {c : ByteArray → ByteArray → Int} {ok : World → Prop} (h : BagI w b (.func (.func kc) #[] cap) v K) (hc : CmpOk kc cap c ok) (hok : ok w) {x : ByteArray} (hx : okS x) {n : Int} (hn : inI64 n) {m : Nat} (hm : m < K.length)
    (hlo : ∀ i (hi : i < K.length), i < m → 0 < c x K[i].1) (hhi : ∀ i (hi : i < K.length), m ≤ i → c x K[i].1 ≤ 0) (hf : c x (K.getD m (⟨#[]⟩, 0)).1 = 0) :
    Calls Try.prog 34 #[.pointer (some ⟨b, 0, none⟩), .string x, .int .i64 n] w fun e w' =>
      ∃ v', e = .returned (.int .i64 (nowK (K.getD m (⟨#[]⟩, 0)).2 n)) ∧ BagI w' b (.func (.func kc) #[] cap) v' (chgK K m n) ∧ v'.ownBlock = v.ownBlock ∧ Turn (b :: v.ownBlock.toList) w w' := by
  have FC := Lib.hid (find_calls h hc hok hx (Nat.le_of_lt hm) hlo hhi)
  rw [show (decide (m < K.length) && (c x (K.getD m (⟨#[]⟩, 0)).1 == 0)) = true by rw [hf]; simp [hm]] at FC
  have H := Lib.hid h
  have HM := Lib.hid hm
  have HN := Lib.hid hn
  obtain ⟨r, hr⟩ : ∃ r, r = nowK (K.getD m (⟨#[]⟩, 0)).2 n := ⟨_, rfl⟩
  have HR := Lib.hid hr
  rw [← hr]
  clear h hc hok hlo hhi hx hf hm hn hr
  go_enter Try.func34, Try.ntmps34
  go_wp2_with fail
  refine FC.out.mono ?_
  rintro e w1 ⟨rfl, t1⟩
  have h1 := H.out.turn t1 (by simp) (fun _ _ => by simp)
  have CC := changeI h1 HM.out HN.out
  rw [← HR.out] at CC
  have HCC := Lib.hid CC
  have T1 := Lib.hid t1
  clear h1 CC t1 FC
  go_wp2_with fail
  refine HCC.out.mono ?_
  rintro e w2 ⟨v2, rfl, h2, ho, t2⟩
  have H2 := Lib.hid h2
  have HO := Lib.hid ho
  have T2 := Lib.hid ((T1.out.mono (by simp)).trans t2 (fun i hi => .inl hi))
  clear h2 ho t2 HCC
  go_wp2
  go_ret
  exact ⟨v2, rfl, H2.out, HO.out, T2.out⟩

set_option maxHeartbeats 2000000 in
set_option maxRecDepth 100000 in
/-- Add of what is not there, none of it. -/
theorem addI_none {w : World} {b kc : Nat} {cap : Array Value} {v : Value} {K : List (ByteArray × Int)} {c : ByteArray → ByteArray → Int} {ok : World → Prop} (h : BagI w b (.func (.func kc) #[] cap) v K) (hc : CmpOk kc cap c ok) (hok : ok w) {x : ByteArray} (hx : okS x) {n : Int} (hn0 : n ≤ 0) {m : Nat} (hm : m ≤ K.length)
    (hlo : ∀ i (hi : i < K.length), i < m → 0 < c x K[i].1) (hhi : ∀ i (hi : i < K.length), m ≤ i → c x K[i].1 ≤ 0) (hf : ¬ (m < K.length ∧ c x (K.getD m (⟨#[]⟩, 0)).1 = 0)) :
    Calls Try.prog 34 #[.pointer (some ⟨b, 0, none⟩), .string x, .int .i64 n] w fun e w' => e = .returned (.int .i64 0) ∧ Turn [] w w' := by
  have FC := Lib.hid (find_calls h hc hok hx hm hlo hhi)
  rw [found_no hf] at FC
  clear h hc hok hlo hhi hx hf hm
  go_enter Try.func34, Try.ntmps34
  go_wp2_with fail
  refine FC.out.mono ?_
  rintro e w1 ⟨rfl, t1⟩
  have T1 := Lib.hid t1
  clear t1 FC
  go_wp2
  go_ret
  exact ⟨rfl, T1.out⟩

set_option maxHeartbeats 2000000 in
set_option maxRecDepth 100000 in
/-- Add of what is not there. -/
theorem addI_new {w : World} {b kc : Nat} {cap : Array Value} {v : Value} {K : List (ByteArray × Int)} {c : ByteArray → ByteArray → Int} {ok : World → Prop} (h : BagI w b (.func (.func kc) #[] cap) v K) (hc : CmpOk kc cap c ok) (hok : ok w) {x : ByteArray} (hx : okS x) {n : Int} (hn0 : 0 < n) (hn1 : n ≤ 9223372036854775807) (hfew : K.length ≤ 999) {m : Nat} (hm : m ≤ K.length)
    (hlo : ∀ i (hi : i < K.length), i < m → 0 < c x K[i].1) (hhi : ∀ i (hi : i < K.length), m ≤ i → c x K[i].1 ≤ 0) (hf : ¬ (m < K.length ∧ c x (K.getD m (⟨#[]⟩, 0)).1 = 0)) :
    Calls Try.prog 34 #[.pointer (some ⟨b, 0, none⟩), .string x, .int .i64 n] w fun e w' =>
      ∃ v', e = .returned (.int .i64 n) ∧ BagI w' b (.func (.func kc) #[] cap) v' (insK K m (x, n)) ∧ (v'.ownBlock = v.ownBlock ∨ ∀ k, v'.ownBlock = some k → w.heap.size ≤ k) ∧ Turn (b :: v.ownBlock.toList) w w' := by
  have FC := Lib.hid (find_calls h hc hok hx hm hlo hhi)
  rw [found_no hf] at FC
  have H := Lib.hid h
  have HM := Lib.hid hm
  have HX := Lib.hid hx
  have hn2 : ¬ n ≤ 0 := by omega
  obtain ⟨ao0, cp0, hv0, -⟩ := h.kinds
  obtain ⟨L, hL⟩ : ∃ L, L = K.length := ⟨_, rfl⟩
  rw [← hL] at hv0 hfew
  have HL := Lib.hid hL
  subst hv0
  clear h hc hok hlo hhi hx hf hm hL
  go_enter Try.func34, Try.ntmps34
  go_wp2_with fail
  refine FC.out.mono ?_
  rintro e w1 ⟨rfl, t1⟩
  have h1 := H.out.turn t1 (by simp) (fun _ _ => by simp)
  have c1 := h1.cells.2
  have H1 := Lib.hid h1
  have T1 := Lib.hid t1
  have h2 := h1.turn (Turn.alloc [] w1 (.cells #[.string x, .int .i64 n] 93)) (by simp) (fun _ _ => by simp)
  have hne : (Value.slice ao0 L cp0).ownBlock ≠ some w1.heap.size := fun e => by have := (h1.row.lt _ e).2; omega
  have CI := insert_calls h2.row (by rw [← HL.out]; omega) HM.out (x, n) (heap_alloc_new w1 _) hne
  have HCI := Lib.hid CI
  have H2 := Lib.hid h2
  clear h1 t1 FC h2 hne CI
  go_wp2_with fail
  refine HCI.out.mono ?_
  rintro e w3 ⟨v3, rfl, hr3, ho3, t3⟩
  have hl3 : (insK K m (x, n)).length = L + 1 := by rw [insK_length HM.out, HL.out]
  rw [← HL.out] at hr3
  obtain ⟨ao3, cp3, hv3⟩ := owns_slice hr3
  subst hv3
  have ho3' : (Value.slice ao3 (L + 1) cp3).ownBlock = (Value.slice ao0 L cp0).ownBlock ∨ ∀ k, (Value.slice ao3 (L + 1) cp3).ownBlock = some k → w1.heap.size ≤ k := by
    rcases ho3 with e | e
    · exact .inl e
    · refine .inr (fun k hk => ?_)
      rw [e] at hk
      have := Option.some.inj hk
      simp at this
      omega
  have t13 := (Turn.alloc (Value.slice ao0 L cp0).ownBlock.toList w1 (.cells #[.string x, .int .i64 n] 93)).trans t3 (fun i hi => .inl hi)
  obtain ⟨hd3, h4, t4⟩ := H1.out.put (K2 := insK K m (x, n)) t13 (by rw [hl3]; exact hr3) ho3' (fun p hp => by
    rcases List.mem_append.1 hp with h5 | h5
    · exact H1.out.nums p (List.mem_of_mem_take h5)
    · rcases List.mem_cons.1 h5 with rfl | h6
      · exact ⟨HX.out, by show 1 ≤ n; omega, hn1⟩
      · exact H1.out.nums p (List.mem_of_mem_drop h6)) (by rw [hl3]; omega)
  obtain ⟨d0, d1, d2⟩ := cells_of_head hd3
  have H4 := Lib.hid h4
  have T4 := Lib.hid ((T1.out.mono (by simp)).trans t4 (fun i hi => .inl hi))
  have HO : Hid ((Value.slice ao3 (L + 1) cp3).ownBlock = (Value.slice ao0 L cp0).ownBlock ∨ ∀ k, (Value.slice ao3 (L + 1) cp3).ownBlock = some k → w.heap.size ≤ k) := Lib.hid (ho3'.imp id (fun h5 k hk => Nat.le_trans T1.out.size (h5 k hk)))
  clear hd3 h4 t4 t13 ho3 ho3' hr3 t3 hl3 HCI H2
  go_wp2
  go_ret
  exact ⟨_, rfl, H4.out, HO.out, T4.out⟩

end Go.Proofs.Ytikbldnekehodaa.S
