/-
  The same, by the reference: rows of numbers, of puts, records.
-/
import Derived.Test.YtanjbbmgpodbgaaKrec
import Derived.WideShapes
namespace Go.Proofs.Ytanjbbmgpodbgaa
open Go.RowKit

theorem txt_ne {x y : ByteArray} (h : x ≠ y) : (x.toList == y.toList) = false := by
  rw [beq_eq_false_iff_ne]
  intro e
  exact h (Go.WideShapes.bytes_inj (by simpa [ByteArray.toList_eq] using e))

theorem list_same {α : Type} {d : α} {l m : List α} (hl : l.length = m.length) (h : ∀ i, i < l.length → l.getD i d = m.getD i d) : l = m := by
  apply List.ext_getElem hl
  intro i h1 h2
  have := h i h1
  simpa [List.getD, h1, h2] using this

theorem Il.turn {w w' : World} {ao : Option Addr} {c : Nat} {l : List Int} (h : Il w ao c l) (t : Turn [] w w') : Il w' ao c l := by
  rcases h with h | ⟨A, h1, h2, h3, h4, h5⟩
  · exact .inl h
  · exact .inr ⟨A, h1, h2, h3, fun i hi => t.cell (h4 i hi) (by simp), h5⟩

set_option maxHeartbeats 1000000 in
set_option maxRecDepth 100000 in
theorem eqInts_calls {w : World} {a1 a2 : Option Addr} {c1 c2 : Nat} {l m : List Int} (h1 : Il w a1 c1 l) (h2 : Il w a2 c2 m) : Calls Try.prog 55 #[.slice a1 l.length c1, .slice a2 m.length c2] w fun e w' => e = .returned (.bool (decide (l = m))) ∧ ∃ d, w' = w.drewN d := by
  have hlen1 := h1.len
  have hlen2 := h2.len
  by_cases hlm : l.length = m.length
  · have H1 := Lib.hid h1
    have H2 := Lib.hid h2
    rw [← hlm] at hlen2 ⊢
    obtain ⟨n, hn⟩ : ∃ n, n = l.length := ⟨_, rfl⟩
    have HN := Lib.hid hn
    have HLM := Lib.hid hlm
    rw [← hn] at hlen1 hlen2 ⊢
    obtain ⟨ans, ha⟩ : ∃ ans, ans = decide (l = m) := ⟨_, rfl⟩
    have HA := Lib.hid ha
    rw [← ha]
    clear h1 h2 hn hlm ha
    go_enter Try.func55, Try.ntmps55
    go_wp2_with fail
    go_loopw [5] (fun vi wx => ∃ k : Nat, k ≤ n ∧ vi = .int .i64 (k : Int) ∧ (∀ i, i < k → l.getD i 0 = m.getD i 0) ∧ ∃ d, wx = w.drewN d) (fun vi _ => n - (intOf vi).toNat)
    case atStart => exact ⟨0, by omega, rfl, fun i hi => by omega, 0, rfl⟩
    case round =>
      obtain ⟨k, hk, rfl, hall, d, rfl⟩ := hrel
      have HS := Lib.hid hall
      clear hall
      by_cases hkn : k < n
      · have hkl : k < l.length := by rw [← HN.out]; exact hkn
        have hkm : k < m.length := by rw [← HLM.out]; exact hkl
        obtain ⟨b1, o1, rfl, -, hat1⟩ := H1.out.at (by intro e; rw [e] at hkl; simp at hkl)
        obtain ⟨b2, o2, rfl, -, hat2⟩ := H2.out.at (by intro e; rw [e] at hkm; simp at hkm)
        have q1 := hat1 k hkl
        have q2 := hat2 k hkm
        have hb : 0 ≤ (k : Int) ∧ (k : Int) < (n : Int) := by omega
        by_cases hxy : l.getD k 0 = m.getD k 0
        · have HS2 : Hid (∀ i, i < k + 1 → l.getD i 0 = m.getD i 0) := Lib.hid (fun i hi => by
            by_cases e : i = k
            · rw [e]; exact hxy
            · exact HS.out i (by omega))
          rw [hxy] at q1
          obtain ⟨y, hy⟩ : ∃ y, y = m.getD k 0 := ⟨_, rfl⟩
          rw [← hy] at q1 q2
          clear hat1 hat2 hxy hy HS
          go_wp2_with fail
          go_quiet (fail)
          go_wp2
          go_roundw
          case rel => exact ⟨k + 1, by omega, by go_num, HS2.out, _, rfl⟩
          case measure => simp [intOf]; omega
        · have HF : Hid (ans = false) := Lib.hid (by rw [HA.out]; exact decide_eq_false (fun e => hxy (by rw [e])))
          obtain ⟨x, hx⟩ : ∃ x, x = l.getD k 0 := ⟨_, rfl⟩
          obtain ⟨y, hy⟩ : ∃ y, y = m.getD k 0 := ⟨_, rfl⟩
          rw [← hx] at q1 hxy
          rw [← hy] at q2 hxy
          have hne : (x != y) = true := by simpa using hxy
          clear hat1 hat2 hx hy HS
          go_wp2_with fail
          go_quiet (fail)
          go_wp2
          go_ret
          exact ⟨ret_bool HF.out.symm, _, World.drewN_drewN _ _ _⟩
      · have hkk : k = n := by omega
        have HF : Hid (ans = true) := Lib.hid (by
          rw [HA.out]
          exact decide_eq_true (list_same HLM.out (by rw [← HN.out, ← hkk]; exact HS.out)))
        clear HS
        go_wp2
        go_ret
        exact ⟨ret_bool HF.out.symm, _, rfl⟩
  · have HF : Hid (decide (l = m) = false) := Lib.hid (decide_eq_false (fun e => hlm (by rw [e])))
    have hne : ((l.length : Int) != (m.length : Int)) = true := by simp; omega
    obtain ⟨n, hn⟩ : ∃ n, n = l.length := ⟨_, rfl⟩
    obtain ⟨n2, hn2⟩ : ∃ n, n = m.length := ⟨_, rfl⟩
    rw [HF.out]
    rw [← hn, ← hn2] at hne
    rw [← hn, ← hn2]
    clear h1 h2 hlm hlen1 hlen2 hn hn2
    go_enter Try.func55, Try.ntmps55
    go_wp2
    go_ret
    exact ⟨rfl, 0, rfl⟩

set_option maxHeartbeats 2000000 in
set_option maxRecDepth 100000 in
theorem eqPuts_calls {w : World} {a1 a2 : Option Addr} {c1 c2 : Nat} {l m : List (ByteArray × ByteArray)} (h1 : Ps w a1 c1 l) (h2 : Ps w a2 c2 m) : Calls Try.prog 56 #[.slice a1 l.length c1, .slice a2 m.length c2] w fun e w' => e = .returned (.bool (decide (l = m))) ∧ ∃ d, w' = w.drewN d := by
  have hlen1 := h1.len
  have hlen2 := h2.len
  by_cases hlm : l.length = m.length
  · have H1 := Lib.hid h1
    have H2 := Lib.hid h2
    rw [← hlm] at hlen2 ⊢
    obtain ⟨n, hn⟩ : ∃ n, n = l.length := ⟨_, rfl⟩
    have HN := Lib.hid hn
    have HLM := Lib.hid hlm
    rw [← hn] at hlen1 hlen2 ⊢
    obtain ⟨ans, ha⟩ : ∃ ans, ans = decide (l = m) := ⟨_, rfl⟩
    have HA := Lib.hid ha
    rw [← ha]
    clear h1 h2 hn hlm ha
    go_enter Try.func56, Try.ntmps56
    go_wp2_with fail
    go_loopw [5] (fun vi wx => ∃ k : Nat, k ≤ n ∧ vi = .int .i64 (k : Int) ∧ (∀ i, i < k → l.getD i putNone = m.getD i putNone) ∧ ∃ d, wx = w.drewN d) (fun vi _ => n - (intOf vi).toNat)
    case atStart => exact ⟨0, by omega, rfl, fun i hi => by omega, 0, rfl⟩
    case round =>
      obtain ⟨k, hk, rfl, hall, d, rfl⟩ := hrel
      have HS := Lib.hid hall
      clear hall
      by_cases hkn : k < n
      · have hkl : k < l.length := by rw [← HN.out]; exact hkn
        have hkm : k < m.length := by rw [← HLM.out]; exact hkl
        obtain ⟨b1, o1, rfl, -, hat1⟩ := H1.out.at (by intro e; rw [e] at hkl; simp at hkl)
        obtain ⟨b2, o2, rfl, -, hat2⟩ := H2.out.at (by intro e; rw [e] at hkm; simp at hkm)
        obtain ⟨q1, q2, -, -⟩ := hat1 k hkl
        obtain ⟨q3, q4, -, -⟩ := hat2 k hkm
        have hb : 0 ≤ (k : Int) ∧ (k : Int) < (n : Int) := by omega
        obtain ⟨p1, hp1⟩ : ∃ p, p = l.getD k putNone := ⟨_, rfl⟩
        obtain ⟨p2, hp2⟩ : ∃ p, p = m.getD k putNone := ⟨_, rfl⟩
        have HF : Hid (p1 ≠ p2 → ans = false) := Lib.hid (fun h => by rw [HA.out]; exact decide_eq_false (fun e => h (by rw [hp1, hp2, e])))
        have HS2 : Hid (p1 = p2 → ∀ i, i < k + 1 → l.getD i putNone = m.getD i putNone) := Lib.hid (fun h i hi => by
          by_cases e : i = k
          · rw [e, ← hp1, ← hp2]; exact h
          · exact HS.out i (by omega))
        rw [← hp1] at q1 q2
        rw [← hp2] at q3 q4
        obtain ⟨x1, y1⟩ := p1
        obtain ⟨x2, y2⟩ := p2
        clear hat1 hat2 hp1 hp2 HS
        dsimp only at q1 q2 q3 q4
        by_cases hx : x1 = x2
        · subst hx
          by_cases hy : y1 = y2
          · subst hy
            have HS3 := Lib.hid (HS2.out rfl)
            clear HS2 HF
            go_wp2_with fail
            go_quiet (fail)
            go_wp2
            go_roundw
            case rel => exact ⟨k + 1, by omega, by go_num, HS3.out, _, rfl⟩
            case measure => simp [intOf]; omega
          · have HF2 := Lib.hid (HF.out (fun e => hy (by cases e; rfl)))
            have hne := txt_ne hy
            clear HS2 HF hy
            go_wp2_with fail
            go_quiet (fail)
            go_wp2
            go_ret
            exact ⟨ret_bool HF2.out.symm, _, World.drewN_drewN _ _ _⟩
        · have HF2 := Lib.hid (HF.out (fun e => hx (by cases e; rfl)))
          have hne := txt_ne hx
          clear HS2 HF hx
          go_wp2_with fail
          go_quiet (fail)
          go_wp2
          go_ret
          exact ⟨ret_bool HF2.out.symm, _, World.drewN_drewN _ _ _⟩
      · have hkk : k = n := by omega
        have HF : Hid (ans = true) := Lib.hid (by
          rw [HA.out]
          exact decide_eq_true (list_same HLM.out (by rw [← HN.out, ← hkk]; exact HS.out)))
        clear HS
        go_wp2
        go_ret
        exact ⟨ret_bool HF.out.symm, _, rfl⟩
  · have HF : Hid (decide (l = m) = false) := Lib.hid (decide_eq_false (fun e => hlm (by rw [e])))
    have hne : ((l.length : Int) != (m.length : Int)) = true := by simp; omega
    obtain ⟨n, hn⟩ : ∃ n, n = l.length := ⟨_, rfl⟩
    obtain ⟨n2, hn2⟩ : ∃ n, n = m.length := ⟨_, rfl⟩
    rw [HF.out]
    rw [← hn, ← hn2] at hne
    rw [← hn, ← hn2]
    clear h1 h2 hlm hlen1 hlen2 hn hn2
    go_enter Try.func56, Try.ntmps56
    go_wp2
    go_ret
    exact ⟨rfl, 0, rfl⟩

def eqRecB (a b : RecV) : Bool := decide (a.kind = b.kind) && (decide (a.tid = b.tid) && (decide (a.id = b.id) && (decide (a.yes = b.yes) && (decide (a.parts = b.parts) && decide (a.puts = b.puts)))))

theorem eqRecB_iff (a b : RecV) : eqRecB a b = true ↔ a = b := by
  obtain ⟨k1, t1, d1, y1, p1, q1⟩ := a
  obtain ⟨k2, t2, d2, y2, p2, q2⟩ := b
  simp [eqRecB]

set_option maxHeartbeats 4000000 in
set_option maxRecDepth 100000 in
theorem eqRecord_calls (a b : RecV) {w : World} {p1 q1 p2 q2 : Option Addr} {c1 e1 c2 e2 : Nat} (hp1 : Il w p1 c1 a.parts) (hq1 : Ps w q1 e1 a.puts) (hp2 : Il w p2 c2 b.parts) (hq2 : Ps w q2 e2 b.puts) :
    Calls Try.prog 36 #[.agg (a.cells p1 c1 q1 e1), .agg (b.cells p2 c2 q2 e2)] w fun e w' => e = .returned (.bool (eqRecB a b)) ∧ Turn [] w w' := by
  obtain ⟨k1, t1, d1, y1, P1, Q1⟩ := a
  obtain ⟨k2, t2, d2, y2, P2, Q2⟩ := b
  have hp1 : Il w p1 c1 P1 := hp1
  have hq1 : Ps w q1 e1 Q1 := hq1
  have hp2 : Il w p2 c2 P2 := hp2
  have hq2 : Ps w q2 e2 Q2 := hq2
  have CI : Hid (∀ wx, Turn [] w wx → Calls Try.prog 55 #[.slice p1 P1.length c1, .slice p2 P2.length c2] wx fun e w' => e = .returned (.bool (decide (P1 = P2))) ∧ ∃ d, w' = wx.drewN d) := Lib.hid (fun wx tw => eqInts_calls (hp1.turn tw) (hp2.turn tw))
  have CP : Hid (∀ wx, Turn [] w wx → Calls Try.prog 56 #[.slice q1 Q1.length e1, .slice q2 Q2.length e2] wx fun e w' => e = .returned (.bool (decide (Q1 = Q2))) ∧ ∃ d, w' = wx.drewN d) := Lib.hid (fun wx tw => eqPuts_calls (hq1.turn tw) (hq2.turn tw))
  have HE : Hid (eqRecB ⟨k1, t1, d1, y1, P1, Q1⟩ ⟨k2, t2, d2, y2, P2, Q2⟩ = (decide (k1 = k2) && (decide (t1 = t2) && (decide (d1 = d2) && (decide (y1 = y2) && (decide (P1 = P2) && decide (Q1 = Q2))))))) := Lib.hid rfl
  obtain ⟨ans, ha⟩ : ∃ ans, ans = eqRecB ⟨k1, t1, d1, y1, P1, Q1⟩ ⟨k2, t2, d2, y2, P2, Q2⟩ := ⟨_, rfl⟩
  obtain ⟨r1, h1⟩ : ∃ r, r = decide (P1 = P2) := ⟨_, rfl⟩
  obtain ⟨r2, h2⟩ : ∃ r, r = decide (Q1 = Q2) := ⟨_, rfl⟩
  rw [← h1] at CI HE
  rw [← h2] at CP HE
  rw [← ha] at HE ⊢
  unfold RecV.cells
  show Calls _ _ #[.agg #[.int .i64 k1, .int .i64 t1, .int .i64 d1, .bool y1, .slice p1 P1.length c1, .slice q1 Q1.length e1], .agg #[.int .i64 k2, .int .i64 t2, .int .i64 d2, .bool y2, .slice p2 P2.length c2, .slice q2 Q2.length e2]] _ _
  obtain ⟨n1, hn1⟩ : ∃ n, n = P1.length := ⟨_, rfl⟩
  obtain ⟨n2, hn2⟩ : ∃ n, n = Q1.length := ⟨_, rfl⟩
  obtain ⟨n3, hn3⟩ : ∃ n, n = P2.length := ⟨_, rfl⟩
  obtain ⟨n4, hn4⟩ : ∃ n, n = Q2.length := ⟨_, rfl⟩
  rw [← hn1, ← hn3] at CI
  rw [← hn2, ← hn4] at CP
  rw [← hn1, ← hn2, ← hn3, ← hn4]
  have T2 : ∀ o o', Turn [] w ((w.alloc o).alloc o') := fun o o' => (Turn.alloc [] w o).trans (Turn.alloc [] _ o') (by simp)
  have HT2 := Lib.hid T2
  clear hp1 hq1 hp2 hq2 ha h1 h2 hn1 hn2 hn3 hn4 T2
  by_cases hk : k1 = k2
  · by_cases ht : t1 = t2
    · by_cases hd : d1 = d2
      · by_cases hy : y1 = y2
        · subst hk ht hd hy
          have HE2 : Hid (ans = (r1 && r2)) := Lib.hid (by rw [HE.out]; simp)
          clear HE
          cases r1 with
          | true =>
            go_enter Try.func36, Try.ntmps36
            go_wp2_with fail
            refine (CI.out _ (HT2.out _ _)).mono ?_
            rintro e w1 ⟨rfl, dd, rfl⟩
            go_wp2_with fail
            refine (CP.out _ ((HT2.out _ _).trans (Turn.drewN [] _ dd) (by simp))).mono ?_
            rintro e w1 ⟨rfl, dd2, rfl⟩
            go_wp2
            go_ret
            exact ⟨ret_bool (by rw [HE2.out]; simp), (HT2.out _ _).trans (Turn.drewN [] _ _) (by simp)⟩
          | false =>
            go_enter Try.func36, Try.ntmps36
            go_wp2_with fail
            refine (CI.out _ (HT2.out _ _)).mono ?_
            rintro e w1 ⟨rfl, dd, rfl⟩
            go_wp2
            go_ret
            exact ⟨ret_bool (by rw [HE2.out]; simp), (HT2.out _ _).trans (Turn.drewN [] _ dd) (by simp)⟩
        · have HA : Hid (ans = false) := Lib.hid (by rw [HE.out]; simp [hy])
          have f4 : (y1 == y2) = false := by simpa using hy
          subst hk ht hd
          clear HE hy
          go_enter Try.func36, Try.ntmps36
          go_wp2
          all_goals go_ret
          all_goals exact ⟨ret_bool HA.out.symm, HT2.out _ _⟩
      · have HA : Hid (ans = false) := Lib.hid (by rw [HE.out]; simp [hd])
        have f3 : (d1 == d2) = false := by simpa using hd
        subst hk ht
        clear HE hd
        go_enter Try.func36, Try.ntmps36
        go_wp2
        all_goals go_ret
        all_goals exact ⟨ret_bool HA.out.symm, HT2.out _ _⟩
    · have HA : Hid (ans = false) := Lib.hid (by rw [HE.out]; simp [ht])
      have f2 : (t1 == t2) = false := by simpa using ht
      subst hk
      clear HE ht
      go_enter Try.func36, Try.ntmps36
      go_wp2
      all_goals go_ret
      all_goals exact ⟨ret_bool HA.out.symm, HT2.out _ _⟩
  · have HA : Hid (ans = false) := Lib.hid (by rw [HE.out]; simp [hk])
    have f1 : (k1 == k2) = false := by simpa using hk
    clear HE hk
    go_enter Try.func36, Try.ntmps36
    go_wp2
    all_goals go_ret
    all_goals exact ⟨ret_bool HA.out.symm, HT2.out _ _⟩

end Go.Proofs.Ytanjbbmgpodbgaa
