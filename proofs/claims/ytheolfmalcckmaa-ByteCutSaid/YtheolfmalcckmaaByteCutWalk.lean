/-
  The walk of the law ByteCut.
-/
import Derived.Test.YtheolfmalcckmaaByteAllWalk
import Derived.Test.YtheolfmalcckmaaShort
namespace Go.Proofs.Ytheolfmalcckmaa
open Go.RowKit Go.ChangeShapes Go.WideShapes Go.ChangeAt Go.Deep

/-- Where values end. -/
def endsL (l : List OpV) (k : Nat) : List Int := (List.range k).map fun i => ((catB (l.take (i + 1))).length : Int)

def i64s (l : List Int) : List Value := l.map (Value.int .i64)

theorem endsL_succ (l : List OpV) (k : Nat) : endsL l (k + 1) = endsL l k ++ [((catB (l.take (k + 1))).length : Int)] := by
  unfold endsL
  rw [List.range_succ, List.map_append]
  rfl

theorem endsL_length (l : List OpV) (k : Nat) : (endsL l k).length = k := by simp [endsL]

theorem endsL_at (l : List OpV) (k i : Nat) (h : i < k) : (endsL l k).getD i 0 = ((catB (l.take (i + 1))).length : Int) := by
  simp [endsL, List.getD, h]

/-- Rows of unlike elements are unlike rows. -/
theorem apart {w : World} {B B' e e' s s' n n' : Nat} {v v' : Value} {xs xs' : List Value} (h : w.ownsRow B e s v n xs) (h' : w.ownsRow B' e' s' v' n' xs') (he : e ≠ e') : v.ownBlock = none ∨ v.ownBlock ≠ v'.ownBlock := by
  rcases h.2 with ⟨rfl, _⟩ | ⟨g, cap, cur, rfl, _, hg, _⟩
  · exact .inl rfl
  · refine .inr fun e1 => ?_
    rcases h'.2 with ⟨rfl, _⟩ | ⟨g', cap', cur', rfl, _, hg', _⟩
    · simp [Value.ownBlock] at e1
    · simp only [Value.ownBlock, Option.some.injEq] at e1
      subst e1
      rw [hg] at hg'
      simp only [Option.some.injEq, Obj.cells.injEq] at hg'
      exact he hg'.2.1

theorem ownsRow_below {w w' : World} {B e s n : Nat} {v : Value} {xs : List Value} (h : w.ownsRow B e s v n xs) (hb : Below w.heap.size w w') : w'.ownsRow B e s v n xs := by
  refine ⟨h.1, ?_⟩
  rcases h.2 with h2 | ⟨g, cap, cur, hv, hg, hh, r⟩
  · exact .inl h2
  · exact .inr ⟨g, cap, cur, hv, hg, by rw [hb.block g (Array.getElem?_eq_some_iff.1 hh).1]; exact hh, r⟩

theorem owns_slice {w : World} {B e s n : Nat} {v : Value} {xs : List Value} (h : w.ownsRow B e s v n xs) : ∃ ao c, v = .slice ao n c := by
  rcases h.2 with ⟨rfl, h0⟩ | ⟨g, cap, cur, rfl, _⟩
  · subst h0
    exact ⟨none, 0, rfl⟩
  · exact ⟨_, cap, rfl⟩

theorem ints_at {w : World} {B k c : Nat} {a : Option Addr} {l : List Int} (h : w.ownsRow B 3 1 (.slice a k c) k (i64s l)) (hk : 0 < k) :
    ∃ g, a = some ⟨g, 0, none⟩ ∧ B ≤ g ∧ ∀ i, i < k → w.cell? ⟨g, i, none⟩ = some (.int .i64 (l.getD i 0)) := by
  rcases h.2 with ⟨h', h0⟩ | ⟨g, cap, cur, hv, hB, _⟩
  · omega
  · simp only [Value.slice.injEq, true_and] at hv
    obtain ⟨rfl, rfl⟩ := hv
    refine ⟨g, rfl, hB, fun i hi => ?_⟩
    have h1 := h.1
    have hl : i < l.length := by simp [i64s] at h1; omega
    rw [h.cellAt i (by omega)]
    simp [i64s, List.getD, hl]

theorem catB_mono (l : List OpV) (i j : Nat) (h : i ≤ j) : (catB (l.take i)).length ≤ (catB (l.take j)).length := by
  have e : l.take j = (l.take i) ++ (l.take j).drop i := by
    have h1 := (List.take_append_drop i (l.take j)).symm
    rw [List.take_take, Nat.min_eq_left h] at h1
    exact h1
  conv => rhs; rw [e]
  unfold catB
  rw [List.flatMap_append, List.length_append]
  omega

/-- Of bytes cut off at kk, the j-th value whole or not. -/
theorem cut_whole (l : List OpV) (K kk j : Nat) (hj : j < K) (hK : K ≤ l.length) (he : (catB (l.take (j + 1))).length ≤ kk) :
    ((catB (l.take K)).take kk).drop (catB (l.take j)).length = opB (l.getD j opNone) ++ ((catB (l.take K)).take kk).drop (catB (l.take (j + 1))).length := by
  have hjl : j < l.length := by omega
  have e1 := catB_take l j hjl
  obtain ⟨r, hr⟩ : ∃ r, catB (l.take K) = catB (l.take (j + 1)) ++ r := by
    refine ⟨catB ((l.take K).drop (j + 1)), ?_⟩
    have : l.take K = (l.take (j + 1)) ++ (l.take K).drop (j + 1) := by
      have h := (List.take_append_drop (j + 1) (l.take K)).symm
      rw [List.take_take, Nat.min_eq_left (by omega)] at h
      exact h
    conv => lhs; rw [this]
    unfold catB
    rw [List.flatMap_append]
  rw [hr, List.take_append, List.take_of_length_le he]
  rw [List.drop_left]
  rw [e1, List.append_assoc, List.drop_left]

theorem cut_part (l : List OpV) (K kk j : Nat) (hj : j < K) (hK : K ≤ l.length) (h1 : (catB (l.take j)).length ≤ kk) (he : kk < (catB (l.take (j + 1))).length) :
    (((catB (l.take K)).take kk).drop (catB (l.take j)).length) <+: opB (l.getD j opNone) ∧ (((catB (l.take K)).take kk).drop (catB (l.take j)).length).length < (opB (l.getD j opNone)).length := by
  have hjl : j < l.length := by omega
  have e1 := catB_take l j hjl
  obtain ⟨r, hr⟩ : ∃ r, catB (l.take K) = catB (l.take (j + 1)) ++ r := by
    refine ⟨catB ((l.take K).drop (j + 1)), ?_⟩
    have : l.take K = (l.take (j + 1)) ++ (l.take K).drop (j + 1) := by
      have h := (List.take_append_drop (j + 1) (l.take K)).symm
      rw [List.take_take, Nat.min_eq_left (by omega)] at h
      exact h
    conv => lhs; rw [this]
    unfold catB
    rw [List.flatMap_append]
  have hl : (catB (l.take (j + 1))).length = (catB (l.take j)).length + (opB (l.getD j opNone)).length := by rw [e1, List.length_append]
  have e2 : ((catB (l.take K)).take kk).drop (catB (l.take j)).length = (opB (l.getD j opNone)).take (kk - (catB (l.take j)).length) := by
    rw [hr, List.take_append_of_le_length (by omega), e1, List.take_append, List.take_of_length_le h1, List.drop_left]
  rw [e2]
  exact ⟨List.take_prefix _ _, by rw [List.length_take]; omega⟩

theorem Try.introw : (Try.prog.info? 3).map (fun i => (i.zero, i.size, i.bytes)) = some (some (.int .i64 0), 1, 8) := by kernel_rfl

theorem one_new (w : World) (x : Value) (t : TypeId) : ∀ j u, [x][j]? = some u → (w.alloc (.cells #[x] t)).cell? ((⟨w.heap.size, 0, none⟩ : Addr).add j) = some u := by
  intro j u hj
  match j, hj with
  | 0, hj =>
    simp at hj
    subst hj
    rw [Addr.add_lit, Nat.zero_add, World.cell?_alloc_at (hn := rfl)]
    rfl
  | j + 1, hj => simp at hj

theorem i64s_snoc (l : List Int) (n : Int) : i64s (l ++ [n]) = i64s l ++ [.int .i64 n] := by simp [i64s]

set_option maxHeartbeats 6000000 in
set_option maxRecDepth 100000 in
theorem byteCut_walk (a0 : Option Addr) (c0 : Nat) (l0 : List OpV) (w : World) (h0 : Ol w a0 c0 l0) (cut : Int) (hcut : (Lit.int .i64 cut).wf = true) :
    Calls Try.prog 11 #[.slice a0 l0.length c0, .int .i64 cut] w fun e w' => e = .returned (.bool true) ∧ Below w.heap.size w w' := by
  obtain ⟨i0, hi, hz0, hz1, hz2⟩ := info_parts Try.introw
  have hcb := bounds_i64 hcut
  have hl0 := h0.len
  have H0 := Lib.hid h0
  clear h0 hcut
  go_enter Try.func11, Try.ntmps11
  go_wp2_with fail
  refine (begun_calls _).mono ?_
  rintro e w1 ⟨rfl, hb1⟩
  have B1 := Lib.hid hb1
  have hz := hb1.size
  clear hb1
  go_wp2_with fail
  generalize hq : w1.heap.size = q at *
  have HQ := Lib.hid hq
  clear hq
  go_loopw [6, 7, 8] (fun v ve i wr => ∃ k : Nat, k ≤ l0.length ∧ k ≤ 15 ∧ i = .int .i64 k ∧ Own q wr v (catB (l0.take k)) ∧ wr.ownsRow q 3 1 ve k (i64s (endsL l0 k)) ∧ Below q w1 wr) (fun _ _ i _ => 15 - (intOf i).toNat)
  case atStart => exact ⟨0, by omega, by omega, rfl, World.ownsRow_nil _ _ _ _, World.ownsRow_nil _ _ _ _, by rw [← HQ.out]; exact Below.refl _ _⟩
  case round =>
    obtain ⟨k, hk1, hk2, rfl, hown, hend, hbel⟩ := hrel
    obtain ⟨ae, ce, hve⟩ := owns_slice hend
    subst hve
    have HO := Lib.hid hown
    have HE := Lib.hid hend
    have HB := Lib.hid hbel
    clear hown hend hbel
    by_cases hlt : k < l0.length ∧ k < 15
    · obtain ⟨hlt1, hlt2⟩ := hlt
      have r1 : (k : Int) < (l0.length : Int) := by omega
      have r2 : (k : Int) < 15 := by omega
      obtain ⟨b, off, ha, hb, hc⟩ := H0.out.at (by intro e; rw [e] at hlt1; simp at hlt1)
      subst ha
      have hbq : b < q := by have := HQ.out; omega
      have K := Lib.hid ((hc k hlt1).below B1.out hb)
      have HT := Lib.hid (catB_take l0 k hlt1)
      have HS := Lib.hid (endsL_succ l0 k)
      have hlen : (catB (l0.take k)).length ≤ 2000 := by have := catB_le (l0.take k); simp at this; omega
      have hlen2 := opB_le (l0.getD k opNone)
      clear hc
      generalize l0.getD k opNone = x at *
      obtain ⟨L, hL⟩ : ∃ L, L = catB (l0.take k) := ⟨_, rfl⟩
      rw [← hL] at HO HT hlen
      have HL := Lib.hid hL
      clear hL
      obtain ⟨hok, e0, e1, e2⟩ := K.out.below HB.out hbq
      have HBytes := Lib.hid (fun wx : World => bytes_calls x wx hok)
      have hqr : q ≤ wr.heap.size := by have := HB.out.size; have := HQ.out; omega
      go_wp2_with fail
      refine (HBytes.out _).mono ?_
      rintro e w5 ⟨v5, rfl, hown5, hbel5⟩
      obtain ⟨a5, c5, hv5, hs5, _⟩ := Sl.of_owns hown5
      subst hv5
      have S5 := Lib.hid hs5
      have O5 := Lib.hid (HO.out.below hbel5)
      have E5 := Lib.hid (ownsRow_below HE.out hbel5)
      have B5 := Lib.hid (HB.out.trans (hbel5.mono hqr))
      have hq5 : q ≤ w5.heap.size := by have := hbel5.size; omega
      clear hown5 hbel5 hs5 e0 e1 e2
      generalize opB x = M at *
      go_wp2_with (at_builtin; refine append_bytes rfl (.tmp 26) (.tmp 31) rfl q _ L rfl O5.out a5 c5 M rfl S5.out (by omega) hq5 ?_)
      intro v6 w6 hown6 hg6 _
      have E6 := Lib.hid (E5.out.kept hg6 (apart E5.out O5.out (by decide)))
      have B6 := Lib.hid (B5.out.grown hg6 hq5 (fun j hj => (O5.out.lt j hj).1))
      have hq6 : q ≤ w6.heap.size := by have := hg6.size; omega
      have O6a : Own q w6 v6 (L ++ M) := by unfold Own; rw [List.length_append]; exact hown6
      obtain ⟨a6, c6, hv6, _, _⟩ := Sl.of_owns O6a
      subst hv6
      have O6 := Lib.hid O6a
      clear hown6 hg6 O6a
      go_wp2_with (at_builtin; refine wpList_append_own _ rfl (.tmp 33) (.tmp 36) 41 rfl q 3 i0 (.int .i64 0) 1 8 Try.underlying41 hi hz0 hz1 hz2 rfl (by decide) (.slice ae k ce) k (i64s (endsL l0 k)) rfl (World.ownsRow.alloc E6.out _) ⟨w6.heap.size, 0, none⟩ 1 1 [.int .i64 ((L.length + M.length : Nat) : Int)] rfl rfl (one_new _ _ _) ?_ ?_ ?_ ?_ ?_)
      · intro u hu; simp at hu; subst hu; rfl
      · unfold maxLen; omega
      · omega
      · simp; omega
      intro v7 w7 hown7 hg7 _
      have O7 : Hid (Own q w7 (.slice a6 (L.length + M.length) c6) (L ++ M)) := Lib.hid (by rw [← List.length_append]; exact (World.ownsRow.alloc (show w6.ownsRow q 5 1 _ _ _ from O6.out) _).kept hg7 (apart O6.out E6.out (by decide)))
      have E7 : Hid (w7.ownsRow q 3 1 v7 (k + 1) (i64s (endsL l0 (k + 1)))) := Lib.hid (by rw [HS.out, i64s_snoc, HT.out, List.length_append, Int.natCast_add]; exact hown7)
      have B7 := Lib.hid ((B6.out.alloc hq6 _).grown hg7 (by simp; omega) (fun j hj => (E6.out.lt j hj).1))
      clear hown7 hg7
      go_wp2
      go_roundw
      case rel => exact ⟨k + 1, by omega, by omega, by go_num, by rw [HT.out]; exact O7.out, E7.out, B7.out⟩
      case measure => simp [intOf]; omega
    · obtain ⟨L, hL⟩ : ∃ L, L = catB (l0.take k) := ⟨_, rfl⟩
      have hlen : L.length ≤ 2000 := by rw [hL]; have := catB_le (l0.take k); simp at this; omega
      rw [← hL] at HO
      have HL := Lib.hid hL
      clear hL
      have hend := Lib.hid (B1.out.trans (HB.out.mono (by have := HQ.out; omega)))
      obtain ⟨ax, cx, hvx, hsx, _⟩ := Sl.of_owns HO.out
      subst hvx
      have SX := Lib.hid hsx
      have hcx := hsx.le
      clear hsx
      obtain ⟨w2, rfl⟩ : ∃ w2 : World, w2 = wr := ⟨_, rfl⟩
      rcases (show (l0.length : Int) ≤ (k : Int) ∨ ((k : Int) < l0.length ∧ 15 ≤ (k : Int)) by omega) with r1 | ⟨r1, r2⟩
      all_goals
        by_cases hc0 : cut < 0
        · go_wp2
          go_ret
          exact ⟨rfl, hend.out⟩
        · have hc1 : 0 ≤ cut := by omega
          by_cases hl0' : L.length = 0
          · have hl1 : (L.length : Int) = 0 := by omega
            go_wp2
            go_ret
            exact ⟨rfl, hend.out⟩
          · have hl1 : (0 : Int) < (L.length : Int) := by omega
            obtain ⟨kk, hmi, hkl⟩ : ∃ kk : Nat, cut % (L.length : Int) = (kk : Int) ∧ kk < L.length := ⟨(cut % (L.length : Int)).toNat, (Int.toNat_of_nonneg (Int.emod_nonneg _ (by omega))).symm, by have := Int.emod_lt_of_pos cut hl1; have := Int.emod_nonneg cut (b := (L.length : Int)) (by omega); omega⟩
            have b1 : (kk : Int) ≤ (cx : Int) := by omega
            have hk0 : 0 < k := by
              rcases Nat.eq_zero_or_pos k with h | h
              · exfalso
                have h2 := HL.out
                rw [h] at h2
                rw [h2] at hl0'
                exact hl0' rfl
              · exact h
            obtain ⟨g, rfl, hgq, hcells⟩ := ints_at HE.out hk0
            have hgl : g < w2.heap.size := World.block_lt_of_cell? _ _ (hcells 0 hk0)
            have HC := Lib.hid hcells
            have ST := Lib.hid (Sl.take SX.out kk)
            have hlt' : (L.take kk).length = kk := by simp; omega
            obtain ⟨L', hL'⟩ : ∃ L', L' = L.take kk := ⟨_, rfl⟩
            rw [← hL'] at ST hlt'
            have HL' := Lib.hid hL'
            have CR := Lib.hid (read_calls ax cx L' _ ST.out)
            rw [hlt'] at CR
            have hkL : ∀ j, j ≤ k → j < k ∨ kk < (catB (l0.take j)).length := fun j h => by
              rcases Nat.lt_or_ge j k with h' | h'
              · exact .inl h'
              · have : j = k := by omega
                subst this
                exact .inr (by rw [← HL.out]; exact hkl)
            have HKL := Lib.hid hkL
            clear hcells ST hL' hkL HE
            go_wp2_with fail
            refine CR.out.mono ?_
            rintro e w3 ⟨rfl, hi3, hb3⟩
            have I3 := Lib.hid hi3
            have B3 := Lib.hid hb3
            have hqi : q ≤ w2.heap.size := by have := HB.out.size; have := HQ.out; omega
            clear hi3 hb3 CR SX
            generalize hib : w2.heap.size = ib at *
            have HIB := Lib.hid hib
            clear hib
            have hwib : w.heap.size ≤ ib := by have := HQ.out; omega
            have hqib : q ≤ ib := by omega
            have hgib : g < ib := by omega
            go_wp2_with fail
            clear b1 hcx hmi hl1 hc1 hc0 hlt' hi hz0 hz1 hz2 hcb
            go_loopw [11] (fun i wr => ∃ j : Nat, j ≤ k ∧ i = .int .i64 j ∧ (catB (l0.take j)).length ≤ kk ∧ InIs wr ib (L'.drop (catB (l0.take j)).length) false ∧ Below ib w2 wr) (fun i _ => 15 - (intOf i).toNat)
            case atStart => exact ⟨0, by omega, rfl, by simp [catB], by simpa [catB] using I3.out, B3.out⟩
            case round =>
              obtain ⟨j, hj, rfl, hjk, hin, hbel⟩ := hrel
              have IJ := Lib.hid hin
              have BJ := Lib.hid hbel
              clear hin hbel I3 B3
              by_cases hr : j < k ∧ (catB (l0.take (j + 1))).length ≤ kk
              · obtain ⟨hj2, he⟩ := hr
                have r5 : (j : Int) < (k : Int) := by omega
                have hjl : j < l0.length := by omega
                have hc1 := (BJ.out.cell (p := ⟨g, j, none⟩) hgib).trans (HC.out j hj2)
                rw [endsL_at l0 k j hj2] at hc1
                have HD := Lib.hid (cut_whole l0 k kk j hj2 hk1 he)
                rw [← HL.out, ← HL'.out] at HD
                have r6 : ((catB (l0.take (j + 1))).length : Int) ≤ (kk : Int) := by omega
                obtain ⟨b, off, ha, hb, hc⟩ := H0.out.at (by intro e; rw [e] at hjl; simp at hjl)
                subst ha
                have hbq : b < q := by have := HQ.out; omega
                have K := Lib.hid (((hc j hjl).below B1.out hb).below (HB.out.trans (BJ.out.mono hqib)) hbq)
                clear hc
                generalize l0.getD j opNone = x at *
                obtain ⟨hok, e0, e1, e2⟩ := K.out
                have C := Lib.hid (one_whole ib x _ wr hok (by rw [← HD.out]; exact IJ.out))
                obtain ⟨E, hE⟩ : ∃ E, E = (catB (l0.take (j + 1))).length := ⟨_, rfl⟩
                rw [← hE] at hc1 r6 C
                have HE := Lib.hid hE
                have HJ := Lib.hid hjk
                have HJ2 := Lib.hid he
                clear hE hjk he
                go_wp2_with fail
                refine C.out.mono ?_
                rintro e w5 ⟨rfl, hi5, hg5⟩
                have I5 := Lib.hid hi5
                have B5 := Lib.hid (BJ.out.grown hg5 (by have := IJ.out.lt; omega) (by intro m hm; cases hm; omega))
                clear hi5 hg5 C
                go_wp2_with fail
                refine (bad_calls ib _ false _ I5.out).mono ?_
                rintro e w' ⟨rfl, rfl⟩
                go_wp2_with fail
                go_roundw
                case rel => exact ⟨j + 1, by omega, by go_num, by rw [← HE.out]; have := HJ2.out; have := HE.out; omega, by rw [← HE.out]; exact I5.out, B5.out⟩
                case measure => simp [intOf]; omega
              · obtain ⟨hj2, he⟩ : j < k ∧ kk < (catB (l0.take (j + 1))).length := by
                  rcases HKL.out j hj with h | h
                  · exact ⟨h, by omega⟩
                  · omega
                have r5 : (j : Int) < (k : Int) := by omega
                have r6 : (kk : Int) < ((catB (l0.take (j + 1))).length : Int) := by omega
                have hc1 := (BJ.out.cell (p := ⟨g, j, none⟩) hgib).trans (HC.out j hj2)
                rw [endsL_at l0 k j hj2] at hc1
                obtain ⟨hp1, hp2⟩ := cut_part l0 k kk j hj2 hk1 hjk he
                rw [← HL.out, ← HL'.out] at hp1 hp2
                have HP := Lib.hid (And.intro hp1 hp2)
                clear hp1 hp2
                obtain ⟨E, hE⟩ : ∃ E, E = (catB (l0.take (j + 1))).length := ⟨_, rfl⟩
                rw [← hE] at hc1 r6
                have HE := Lib.hid hE
                have HJ := Lib.hid hjk
                have HJ2 := Lib.hid he
                clear hE hjk he
                go_wp2_with fail
                have HC1 := Lib.hid hc1
                clear hc1 r5
                go_loopw [12] (fun i wx => ∃ m : Nat, m ≤ j ∧ i = .int .i64 m ∧ wx = wr) (fun i _ => 15 - (intOf i).toNat)
                case atStart => exact ⟨0, by omega, rfl, rfl⟩
                case round =>
                  obtain ⟨m, hm, rfl, hwx⟩ := hrel
                  subst hwx
                  have r5 : (m : Int) < (k : Int) := by omega
                  have hml : m < l0.length := by omega
                  by_cases hmj : m < j
                  · have hc2 := (BJ.out.cell (p := ⟨g, m, none⟩) hgib).trans (HC.out m (by omega))
                    rw [endsL_at l0 k m (by omega)] at hc2
                    have r7 : ((catB (l0.take (m + 1))).length : Int) ≤ (kk : Int) := by have := catB_mono l0 (m + 1) j (by omega); have := HJ.out; omega
                    generalize (catB (l0.take (m + 1))).length = F at *
                    go_wp2_with fail
                    go_roundw
                    case rel => exact ⟨m + 1, by omega, by go_num, trivial⟩
                    case measure => simp [intOf]; omega
                  · obtain rfl : m = j := by omega
                    obtain ⟨b, off, ha, hb, hc⟩ := H0.out.at (by intro e; rw [e] at hml; simp at hml)
                    subst ha
                    have hbq : b < q := by have := HQ.out; omega
                    have K := Lib.hid (((hc m hml).below B1.out hb).below (HB.out.trans (BJ.out.mono hqib)) hbq)
                    have hc1 := HC1.out
                    clear hc
                    generalize l0.getD m opNone = x at *
                    obtain ⟨hok, e0, e1, e2⟩ := K.out
                    have C := Lib.hid (one_cut ib x _ wr hok HP.out.1 HP.out.2 IJ.out)
                    go_wp2_with fail
                    refine C.out.mono ?_
                    rintro e w5 ⟨⟨bv, rfl⟩, hi5, hg5⟩
                    have hib5 := IJ.out.lt
                    have I5 := Lib.hid hi5
                    have B5 := Lib.hid ((hend.out.trans (BJ.out.mono hwib)).grown hg5 (by omega) (by intro m hm; cases hm; omega))
                    have hib6 : ib < w5.heap.size := hi5.lt
                    clear hi5 hg5 C
                    go_wp2_with fail
                    refine (bad_calls ib [] true _ I5.out).mono ?_
                    rintro e w' ⟨rfl, rfl⟩
                    go_wp2_with fail
                    refine (end_calls ib [] true _ I5.out).mono ?_
                    rintro e w' ⟨rfl, rfl⟩
                    go_wp2_with fail
                    refine (left_calls ib [] true _ I5.out).mono ?_
                    rintro e w' ⟨rfl, rfl⟩
                    go_wp2_with fail
                    refine (small_in ib [] true _ I5.out).mono ?_
                    rintro e w6 ⟨rfl, hi6, hg6⟩
                    have B6 := Lib.hid (B5.out.grown hg6 (by omega) (by intro m hm; cases hm; omega))
                    clear hi6 hg6
                    rw [show leN (taken [] true 2) = 0 from by decide +kernel]
                    go_wp2
                    go_ret
                    exact ⟨rfl, B6.out⟩

end Go.Proofs.Ytheolfmalcckmaa
