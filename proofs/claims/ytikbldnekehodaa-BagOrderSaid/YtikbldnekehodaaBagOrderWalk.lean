/-
  The walk of the law BagOrder.
-/
import Derived.Test.YtikbldnekehodaaBagO
namespace Go.Proofs.Ytikbldnekehodaa
open Go.RowKit

theorem add_facts {κ : Int → Int} {K : List (Int × Int)} {x n : Int} (hs : Srt κ K) (hp : Pos K) (hn : -1000 ≤ n ∧ n ≤ 1000) (ht : totK K ≤ 900) :
    (∀ z, getK κ (addR κ K x n) z = if z = κ x then max 0 (getK κ K z + n) else getK κ K z) ∧ totK (addR κ K x n) = totK K - getK κ K (κ x) + max 0 (getK κ K (κ x) + n) := by
  have h1 := getK_le_tot κ hp (κ x)
  obtain ⟨-, m2, -⟩ := addR_more K x n hs hp (by omega) (by omega)
  refine ⟨(addR_get K x n hs hp (by omega)).1, ?_⟩
  rw [m2]
  omega

/-- What the law's loop keeps. -/
structure Ord (w wr : World) (b1 b2 c1 c2 : Nat) (f g : Nat → Int) (k : Nat) (v1 v2 : Value) (K1 K2 : List (Int × Int)) : Prop where
  two : TwoB false w wr b1 b2 c1 c2 v1 v2 K1 K2
  g1 : ∀ z, getK (keyO false) K1 z = cnt f k z
  g2 : ∀ z, getK (keyO false) K2 z = cnt g k z
  t1 : totK K1 = (k : Int)
  t2 : totK K2 = (k : Int)

/-- One more of what comes next. -/
theorem one_more {w wr : World} {b1 b2 c1 c2 : Nat} {f : Nat → Int} {k : Nat} {v1 v2 : Value} {K1 K2 : List (Int × Int)} (h : TwoB false w wr b1 b2 c1 c2 v1 v2 K1 K2) (hg : ∀ z, getK (keyO false) K1 z = cnt f k z) (ht : totK K1 = (k : Int)) (hk : k ≤ 100) {x : Int} (hx : inI64 x) (hf : f k = keyO false x) :
    Calls Try.prog 15 #[.pointer (some ⟨b1, 0, none⟩), .int .i64 x, .int .i64 1] wr fun e w' =>
      ∃ r v' K', e = .returned (.int .i64 r) ∧ TwoB false w w' b1 b2 c1 c2 v' v2 K' K2 ∧ (∀ z, getK (keyO false) K' z = cnt f (k + 1) z) ∧ totK K' = ((k + 1 : Nat) : Int) := by
  refine (h.add hx (n := 1) (by omega) (by rw [ht]; omega)).mono ?_
  rintro e w' ⟨v', rfl, h2⟩
  obtain ⟨q1, q2⟩ := add_facts (κ := keyO false) (x := x) (n := 1) h.l1.srt h.l1.pos (by omega) (by rw [ht]; omega)
  have n0 := cnt_nonneg f k (keyO false x)
  refine ⟨_, v', _, rfl, h2, fun z => ?_, ?_⟩
  · rw [q1, hg]
    show _ = cnt f k z + (if f k = z then 1 else 0)
    have nz := cnt_nonneg f k z
    by_cases e : z = keyO false x
    · rw [if_pos e, if_pos (by rw [hf, e])]
      omega
    · rw [if_neg e, if_neg (by rw [hf]; exact fun h => e h.symm)]
      omega
  · rw [q2, ht, hg]
    omega

/-- One that is not among them goes in .. -/
theorem in_other {w wr : World} {b1 b2 c1 c2 : Nat} {f : Nat → Int} {k : Nat} {v1 v2 : Value} {K1 K2 : List (Int × Int)} (h : TwoB false w wr b1 b2 c1 c2 v1 v2 K1 K2) (hg : ∀ z, getK (keyO false) K1 z = cnt f k z) (ht : totK K1 = (k : Int)) (hk : k ≤ 100) {x : Int} (hx : inI64 x) (hf : ∀ i, i < k → f i ≠ keyO false x) :
    Calls Try.prog 15 #[.pointer (some ⟨b1, 0, none⟩), .int .i64 x, .int .i64 1] wr fun e w' =>
      ∃ r v' K', e = .returned (.int .i64 r) ∧ TwoB false w w' b1 b2 c1 c2 v' v2 K' K2 ∧ (∀ z, getK (keyO false) K' z = if z = keyO false x then 1 else cnt f k z) ∧ totK K' = ((k + 1 : Nat) : Int) := by
  refine (h.add hx (n := 1) (by omega) (by rw [ht]; omega)).mono ?_
  rintro e w' ⟨v', rfl, h2⟩
  obtain ⟨q1, q2⟩ := add_facts (κ := keyO false) (x := x) (n := 1) h.l1.srt h.l1.pos (by omega) (by rw [ht]; omega)
  have n0 := cnt_none hf
  refine ⟨_, v', _, rfl, h2, fun z => ?_, ?_⟩
  · rw [q1]
    by_cases e : z = keyO false x
    · rw [if_pos e, if_pos e, hg, e, n0]
      rfl
    · rw [if_neg e, if_neg e, hg]
  · rw [q2, ht, hg, n0]
    omega

/-- .. and out again. -/
theorem out_other {w wr : World} {b1 b2 c1 c2 : Nat} {f : Nat → Int} {k : Nat} {v1 v2 : Value} {K1 K2 : List (Int × Int)} {x : Int} (h : TwoB false w wr b1 b2 c1 c2 v1 v2 K1 K2) (hg : ∀ z, getK (keyO false) K1 z = if z = keyO false x then 1 else cnt f k z) (ht : totK K1 = ((k + 1 : Nat) : Int)) (hk : k ≤ 100) (hx : inI64 x) (hf : ∀ i, i < k → f i ≠ keyO false x) :
    Calls Try.prog 15 #[.pointer (some ⟨b1, 0, none⟩), .int .i64 x, .int .i64 (-1)] wr fun e w' =>
      ∃ r v' K', e = .returned (.int .i64 r) ∧ TwoB false w w' b1 b2 c1 c2 v' v2 K' K2 ∧ (∀ z, getK (keyO false) K' z = cnt f k z) ∧ totK K' = (k : Int) := by
  refine (h.add hx (n := -1) (by omega) (by rw [ht]; omega)).mono ?_
  rintro e w' ⟨v', rfl, h2⟩
  obtain ⟨q1, q2⟩ := add_facts (κ := keyO false) (x := x) (n := -1) h.l1.srt h.l1.pos (by omega) (by rw [ht]; omega)
  have n0 := cnt_none hf
  refine ⟨_, v', _, rfl, h2, fun z => ?_, ?_⟩
  · rw [q1, hg]
    by_cases e : z = keyO false x
    · rw [if_pos e, if_pos e, e, n0]
      rfl
    · rw [if_neg e, if_neg e]
  · rw [q2, ht, hg, if_pos rfl]
    omega

theorem rest_ne (y : Int) : keyO false (y.tmod 50) ≠ keyO false 77 := fun h => by
  have hym : -50 < y.tmod 50 ∧ y.tmod 50 < 50 := by
    rw [Int.tmod_eq_emod (a := y) (b := 50)]
    split <;> omega
  have := keyO_inj (x := y.tmod 50) (y := 77) (by unfold inI64; omega) (by unfold inI64; omega) h
  omega

set_option maxHeartbeats 4000000 in
set_option maxRecDepth 100000 in
theorem bagOrder_walk {w : World} (a0 : Option Addr) (c0 : Nat) (l0 : List Int) (turn : Int) (w0 : Il w a0 c0 l0) (HB : ∀ w, Calls Try.prog 12 #[] w fun e w' => e = .returned (.bool true) ∧ Below w.heap.size w w') :
    Calls Try.prog 4 #[.slice a0 l0.length c0, .int .i64 turn] w fun e w' => e = .returned (.bool true) ∧ Below w.heap.size w w' := by
  have hlen := w0.len
  have H0 := Lib.hid w0
  have CB := Lib.hid (HB w)
  clear w0 HB
  obtain ⟨n, hn⟩ : ∃ n, n = l0.length := ⟨_, rfl⟩
  have HN := Lib.hid hn
  rw [← hn] at hlen ⊢
  clear hn
  go_enter Try.func4, Try.ntmps4
  go_wp2_with fail
  refine CB.out.mono ?_
  rintro e x1 ⟨rfl, hb1⟩
  have B1 := Lib.hid hb1
  clear hb1 CB
  go_wp2_with fail
  refine (by_calls false x1).mono ?_
  rintro e x2 ⟨rfl, k1, t1⟩
  obtain ⟨c1, hc1⟩ : ∃ c1, c1 = x1.heap.size := ⟨_, rfl⟩
  rw [← hc1] at k1 ⊢
  have HC1 := Lib.hid hc1
  have T1 := Lib.hid t1
  clear hc1 t1
  go_wp2_with fail
  refine (newI _ _ x2).mono ?_
  rintro e x3 ⟨rfl, h3, t3⟩
  obtain ⟨b1, hb1⟩ : ∃ b1, b1 = x2.heap.size := ⟨_, rfl⟩
  rw [← hb1] at h3 ⊢
  have HB1 := Lib.hid hb1
  have T3 := Lib.hid t3
  have K1 := Lib.hid k1
  have H3 := Lib.hid h3
  clear hb1 t3 k1 h3
  go_wp2_with fail
  refine (by_calls false x3).mono ?_
  rintro e x4 ⟨rfl, k4, t4⟩
  obtain ⟨c2, hc2⟩ : ∃ c2, c2 = x3.heap.size := ⟨_, rfl⟩
  rw [← hc2] at k4 ⊢
  have HC2 := Lib.hid hc2
  have T4 := Lib.hid t4
  have K4 := Lib.hid k4
  clear hc2 t4 k4
  go_wp2_with fail
  refine (newI _ _ x4).mono ?_
  rintro e x5 ⟨rfl, h5, t5⟩
  obtain ⟨b2, hb2⟩ : ∃ b2, b2 = x4.heap.size := ⟨_, rfl⟩
  rw [← hb2] at h5 ⊢
  obtain ⟨m, hm⟩ : ∃ m : Nat, min (n : Int) 30 = (m : Int) := ⟨min n 30, by omega⟩
  obtain ⟨r, hr⟩ : ∃ r : Nat, r = ((turn.tmod m + m).tmod m).toNat := ⟨_, rfl⟩
  obtain ⟨f, hf⟩ : ∃ f : Nat → Int, f = fun i => keyO false ((l0.getD i 0).tmod 50) := ⟨_, rfl⟩
  have TB : Hid (Ord w x5 b1 b2 c1 c2 f (fun i => f ((i + r) % m)) 0 (.slice none 0 0) (.slice none 0 0) [] []) := by
    have s1 := lt_of_heap H3.out.head
    have s2 := World.block_lt_of_cell? _ _ K1.out
    have s3 := World.block_lt_of_cell? _ _ K4.out
    have e1 := HC1.out
    have e2 := HC2.out
    have e3 := HB1.out
    have z1 := B1.out.size
    have z2 := T1.out.size
    have z3 := T3.out.size
    have z4 := T4.out.size
    have s2' : c1 < x2.heap.size := s2
    have s3' : c2 < x4.heap.size := s3
    exact Lib.hid
      { two :=
          { l1 := ((LB.new H3.out (by omega)).quiet T4.out).quiet t5
            l2 := LB.new h5 (by omega)
            k1 := t5.cell (T4.out.cell (T3.out.cell K1.out (by simp)) (by simp)) (by simp)
            k2 := t5.cell K4.out (by simp)
            bb := by omega
            cb := by omega
            o1 := by intro k hk; cases hk
            o2 := by intro k hk; cases hk
            oo := by intro k hk; cases hk
            bel := (((B1.out.trans (T1.out.belowAll.mono (by omega))).trans (T3.out.belowAll.mono (by omega))).trans (T4.out.belowAll.mono (by omega))).trans (t5.belowAll.mono (by omega)) }
        g1 := fun _ => rfl
        g2 := fun _ => rfl
        t1 := rfl
        t2 := rfl }
  have HR := Lib.hid hr
  have HF := Lib.hid hf
  clear h5 t5 hb2 K1 K4 H3 T1 T3 T4 hr hf
  go_wp2_with fail
  go_loopw [9] (fun vi wr => ∃ (k : Nat) (v1 v2 : Value) (K1 K2 : List (Int × Int)), k ≤ m ∧ vi = .int .i64 (k : Int) ∧ Ord w wr b1 b2 c1 c2 f (fun i => f ((i + r) % m)) k v1 v2 K1 K2) (fun vi _ => m - (intOf vi).toNat)
  case atStart => exact ⟨0, _, _, _, _, by omega, rfl, TB.out⟩
  case round =>
    obtain ⟨k, v1, v2, K1, K2, hk, rfl, ho⟩ := hrel
    have O := Lib.hid ho
    clear ho TB
    by_cases hkm : k < m
    · obtain ⟨ob, off, rfl, hob, hop⟩ := H0.out.at (by intro e; rw [← List.length_eq_zero_iff] at e; have := HN.out; omega)
      have hmn : m ≤ n := by omega
      have hm30 : m ≤ 30 := by omega
      have hcell := (O.out.two.bel.cell (p := ⟨ob, off + k, none⟩) hob).trans (hop k (by rw [← HN.out]; omega))
      obtain ⟨y, hy⟩ : ∃ y, y = l0.getD k 0 := ⟨_, rfl⟩
      have hyb := H0.out.bound k
      have HY := Lib.hid hy
      rw [← hy] at hcell hyb
      have hym : -50 < y.tmod 50 ∧ y.tmod 50 < 50 := by
        rw [Int.tmod_eq_emod (a := y) (b := 50)]
        split <;> omega
      obtain ⟨a, ha⟩ : ∃ a, y.tmod 50 = a := ⟨_, rfl⟩
      have HA := Lib.hid ha
      rw [ha] at hym
      have hb : 0 ≤ (k : Int) ∧ (k : Int) < (n : Int) := by omega
      have CA := Lib.hid (one_more O.out.two O.out.g1 O.out.t1 (by omega) (x := a) (by unfold inI64; omega) (by rw [HF.out]; show keyO false ((l0.getD k 0).tmod 50) = _; rw [← HY.out, HA.out]))
      have HOP := Lib.hid hop
      -- where the other bag reads
      obtain ⟨s, hs⟩ : ∃ s, turn.tmod (m : Int) = s := ⟨_, rfl⟩
      have hsb : -(m : Int) < s ∧ s < (m : Int) := by
        rw [← hs, Int.tmod_eq_emod (a := turn) (b := (m : Int))]
        have h1 := Int.emod_nonneg turn (show (m : Int) ≠ 0 by omega)
        have h2 := Int.emod_lt_of_pos turn (show (0 : Int) < (m : Int) by omega)
        have h3 : ((m : Int).natAbs : Int) = (m : Int) := rfl
        split <;> omega
      have hr1 : (s + (m : Int)).tmod (m : Int) = (r : Int) := by
        have := HR.out
        rw [hs] at this
        have h1 : 0 ≤ (s + (m : Int)).tmod (m : Int) := Int.tmod_nonneg _ (by omega)
        omega
      have hrm : r < m := by
        have : (s + (m : Int)).tmod (m : Int) < (m : Int) := Int.tmod_lt_of_pos _ (by omega)
        omega
      obtain ⟨j, hj⟩ : ∃ j, j = (k + r) % m := ⟨_, rfl⟩
      have hjm : j < m := by rw [hj]; exact Nat.mod_lt _ (by omega)
      have hr2 : ((k : Int) + (r : Int)).tmod (m : Int) = (j : Int) := by
        rw [Int.tmod_eq_emod_of_nonneg (by omega), hj]
        simp
      have HJ := Lib.hid hj
      obtain ⟨y2, hy2⟩ : ∃ y2, y2 = l0.getD j 0 := ⟨_, rfl⟩
      have hyb2 := H0.out.bound j
      have HY2 := Lib.hid hy2
      rw [← hy2] at hyb2
      have hym2 : -50 < y2.tmod 50 ∧ y2.tmod 50 < 50 := by
        rw [Int.tmod_eq_emod (a := y2) (b := 50)]
        split <;> omega
      obtain ⟨a2, ha2⟩ : ∃ a2, y2.tmod 50 = a2 := ⟨_, rfl⟩
      have HA2 := Lib.hid ha2
      rw [ha2] at hym2
      have hm0 : (m : Int) ≠ 0 := by omega
      have hbj : 0 ≤ (j : Int) ∧ (j : Int) < (n : Int) := by omega
      clear hop hy hj hy2
      go_wp2_with fail
      refine CA.out.mono ?_
      rintro e x6 ⟨r6, v6, K6, rfl, h6, g6, t6⟩
      have hcell2 := (h6.bel.cell (p := ⟨ob, off + j, none⟩) hob).trans (HOP.out j (by rw [← HN.out]; omega))
      rw [← HY2.out] at hcell2
      have C2 := Lib.hid (one_more h6.swap O.out.g2 O.out.t2 (by omega) (x := a2) (by unfold inI64; omega) (by rw [HF.out]; show keyO false ((l0.getD ((k + r) % m) 0).tmod 50) = _; rw [← HJ.out, ← HY2.out, HA2.out]))
      have G6 := Lib.hid g6
      have T6 := Lib.hid t6
      clear g6 t6 h6 CA hcell
      go_wp2_with fail
      refine C2.out.mono ?_
      rintro e x7 ⟨r7, v7, K7, rfl, h7, g7, t7⟩
      have hno : Hid (∀ i, i < k + 1 → (fun i => f ((i + r) % m)) i ≠ keyO false 77) := Lib.hid (fun i _ => by
        show f ((i + r) % m) ≠ _
        rw [HF.out]
        exact rest_ne _)
      have C3 := Lib.hid (in_other h7 g7 t7 (by omega) (x := 77) (by unfold inI64; omega) hno.out)
      clear g7 t7 h7 C2 hcell2
      go_wp2_with fail
      refine C3.out.mono ?_
      rintro e x8 ⟨r8, v8, K8, rfl, h8, g8, t8⟩
      have C4 := Lib.hid (out_other h8 g8 t8 (by omega) (by unfold inI64; omega) hno.out)
      clear g8 t8 h8 C3
      go_wp2_with fail
      refine C4.out.mono ?_
      rintro e x9 ⟨r9, v9, K9, rfl, h9, g9, t9⟩
      have O9 := Lib.hid h9
      have G9 := Lib.hid g9
      have T9 := Lib.hid t9
      clear g9 t9 h9 C4
      go_wp2
      go_roundw
      case rel => exact ⟨k + 1, v6, v9, K6, K9, by omega, by go_num, ⟨O9.out.swap, G6.out, G9.out, T6.out, T9.out⟩⟩
      case measure => simp [intOf]; omega
    · have hkm2 : k = m := by omega
      subst hkm2
      have hK : K1 = K2 := by
        refine same_K O.out.two.l1.srt O.out.two.l2.srt O.out.two.l1.pos O.out.two.l2.pos (fun z => ?_) (fun p hp q hq h => keyO_inj (O.out.two.l1.bag.nums p hp).1 (O.out.two.l2.bag.nums q hq).1 h)
        rw [O.out.g1, O.out.g2]
        by_cases h0 : k = 0
        · subst h0
          rfl
        · have hrk : r < k := by
            have h1 := HR.out
            have h2 : (turn.tmod (k : Int) + (k : Int)).tmod (k : Int) < (k : Int) := Int.tmod_lt_of_pos _ (by omega)
            omega
          exact (cnt_turn f k r hrk z).symm
      subst hK
      have P := Lib.hid O.out.two
      have HT := Lib.hid O.out.t1
      have hk30 : k ≤ 30 := by omega
      clear O
      go_wp2_with fail
      go_loopw [10] (fun vi wq => ∃ (i : Nat), i ≤ k + 1 ∧ vi = .int .i64 (i : Int) ∧ TwoB false w wq b1 b2 c1 c2 v1 v2 K1 K1) (fun vi _ => 40 - (intOf vi).toNat)
      case atStart => exact ⟨0, by omega, rfl, P.out⟩
      case round =>
        obtain ⟨i, hik, rfl, ho⟩ := hrel
        have Q := Lib.hid ho
        clear ho P
        by_cases hi : i ≤ k
        · have A1 := atI Q.out.l1.bag (i : Int) (by omega)
          have A2 := atI Q.out.l2.bag (i : Int) (by omega)
          obtain ⟨p, hp⟩ : ∃ p, p = (atK K1 (i : Int)).getD 0 := ⟨_, rfl⟩
          obtain ⟨s, hs⟩ : ∃ s, s = (atK K1 (i : Int)).isSome := ⟨_, rfl⟩
          rw [← hp, ← hs] at A1 A2
          have C1 := Lib.hid A1
          have C2 := Lib.hid A2
          clear A1 A2 hp hs
          cases s <;>
          · go_wp2_with fail
            refine C1.out.mono ?_
            rintro e y1 ⟨rfl, rfl⟩
            go_wp2_with fail
            refine C2.out.mono ?_
            rintro e y2 ⟨rfl, rfl⟩
            clear C1 C2
            go_wp2
            go_roundw
            case rel => exact ⟨i + 1, by omega, by go_num, Q.out⟩
            case measure => simp [intOf]; omega
        · have L1 := lb_len Q.out.l1 (by rw [HT.out]; omega)
          rw [HT.out] at L1
          have C1 := Lib.hid L1
          clear L1
          go_wp2_with fail
          refine C1.out.mono ?_
          rintro e y1 ⟨rfl, t1⟩
          have Q1 := Lib.hid (Q.out.quiet t1)
          have L2 := lb_len Q1.out.l2 (by rw [HT.out]; omega)
          rw [HT.out] at L2
          have C2 := Lib.hid L2
          clear L2 t1 C1 Q
          go_wp2_with fail
          refine C2.out.mono ?_
          rintro e y2 ⟨rfl, t2⟩
          have Q2 := Lib.hid (Q1.out.quiet t2)
          have C3 := Lib.hid (kindsI Q2.out.l1.bag)
          have C4 := Lib.hid (kindsI Q2.out.l2.bag)
          have B2 := Lib.hid Q2.out.bel
          clear t2 C2 Q1
          go_wp2_with fail
          refine C3.out.mono ?_
          rintro e y3 ⟨rfl, rfl⟩
          go_wp2_with fail
          refine C4.out.mono ?_
          rintro e y4 ⟨rfl, rfl⟩
          clear C3 C4 Q2
          go_wp2
          go_ret
          exact ⟨rfl, B2.out⟩

end Go.Proofs.Ytikbldnekehodaa
