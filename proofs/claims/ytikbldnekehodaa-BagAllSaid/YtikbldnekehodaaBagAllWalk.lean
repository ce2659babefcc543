/-
  The walk of the law BagAll.
-/
import Derived.Test.YtikbldnekehodaaAllS
import Derived.Test.YtikbldnekehodaaOl6
import Derived.Deep.CutBlock
import Derived.Deep.CutRange
import Derived.BigQuiet
import Derived.Deep.QuietTactic
namespace Go.Proofs.Ytikbldnekehodaa
open Go.RowKit

set_option maxHeartbeats 4000000 in
set_option maxRecDepth 100000 in
theorem bagAll_walk {w : World} (back : Bool) (a0 : Option Addr) (c0 : Nat) (l0 : List OpV) (w0 : Ol w a0 c0 l0) (HB : ∀ w, Calls Try.prog 12 #[] w fun e w' => e = .returned (.bool true) ∧ Below w.heap.size w w') :
    Calls Try.prog 3 #[.bool back, .slice a0 l0.length c0] w fun e w' => e = .returned (.bool true) ∧ Below w.heap.size w w' := by
  have hlen := w0.len
  have H0 := Lib.hid w0
  have CB := Lib.hid (HB w)
  clear w0 HB
  obtain ⟨n0, hn⟩ : ∃ n, n = l0.length := ⟨_, rfl⟩
  have HN := Lib.hid hn
  rw [← hn] at hlen ⊢
  clear hn
  go_enter Try.func3, Try.ntmps3
  go_wp2_with fail
  refine CB.out.mono ?_
  rintro e x1 ⟨rfl, hb1⟩
  have B1 := Lib.hid hb1
  clear hb1 CB
  go_wp2_with fail
  refine (by_calls back x1).mono ?_
  rintro e x2 ⟨rfl, k2, t2⟩
  obtain ⟨c, hc⟩ : ∃ c, c = x1.heap.size := ⟨_, rfl⟩
  rw [← hc] at k2 ⊢
  have HC := Lib.hid hc
  clear hc
  go_wp2_with fail
  refine (newI _ _ x2).mono ?_
  rintro e x3 ⟨rfl, h3, t3⟩
  obtain ⟨b, hb⟩ : ∃ b, b = x2.heap.size := ⟨_, rfl⟩
  rw [← hb] at h3 ⊢
  have hc := HC.out
  have S3 : Hid (AllS back w x3 b c 0 (.slice none 0 0) (.slice none 0 0) []) := by
    have s2 := World.block_lt_of_cell? _ _ k2
    have s2' : c < x2.heap.size := s2
    have z1 := B1.out.size
    have z2 := t2.size
    exact Lib.hid
      { lb := LB.new h3 (by omega)
        kc := t3.cell k2 (by simp)
        cb := by omega
        own := by intro k hk; cases hk
        row := World.ownsRow_nil _ _ _ _
        rl := by intro k hk; cases hk
        tot := Int.le_refl _
        few := Nat.le_refl _
        bel := (B1.out.trans (t2.belowAll.mono (by omega))).trans (t3.belowAll.mono (by omega)) }
  clear k2 t2 h3 t3 hb hc B1
  go_wp2_with fail
  go_loopw [8, 9] (fun vl vi wr => ∃ (i : Nat) (v : Value) (K : List (Int × Int)), i ≤ n0 ∧ i ≤ 40 ∧ vi = .int .i64 (i : Int) ∧ AllS back w wr b c i v vl K) (fun _ vi _ => 40 - (intOf vi).toNat)
  case atStart => exact ⟨0, _, _, by omega, by omega, rfl, S3.out⟩
  case round =>
    obtain ⟨i, v, K, hi, hi40, rfl, ho⟩ := hrel
    have O := Lib.hid ho
    obtain ⟨al, cl, rfl, hlc, hcm, hrow⟩ := row_form ho.row
    have HROW := Lib.hid hrow
    clear ho S3 hrow
    obtain ⟨L, hL⟩ : ∃ L, L = (expK K).length := ⟨_, rfl⟩
    have HL := Lib.hid hL
    have hLt := exp_len O.out.lb.pos
    have htot := O.out.tot
    rw [← hL] at hlc hLt ⊢
    have hL8 : L ≤ 800 := by omega
    clear hL hLt htot
    by_cases hlt : i < n0 ∧ i < 40
    · obtain ⟨hin, hi4⟩ := hlt
      obtain ⟨ob, off, rfl, hob, hop⟩ := H0.out.at (by intro e; rw [← List.length_eq_zero_iff] at e; have := HN.out; omega)
      obtain ⟨ok, hq0, hq1, hq2⟩ := (hop i (by rw [← HN.out]; exact hin)).below O.out.bel hob
      obtain ⟨y, hy⟩ : ∃ y, y = (l0.getD i opNone).x := ⟨_, rfl⟩
      obtain ⟨z, hz⟩ : ∃ z, z = (l0.getD i opNone).n := ⟨_, rfl⟩
      obtain ⟨-, ok1, ok2⟩ := ok
      rw [← hy] at hq1 ok1
      rw [← hz] at hq2 ok2
      have hxb : -100 < y.tmod 100 ∧ y.tmod 100 < 100 := by
        rw [Int.tmod_eq_emod (a := y) (b := 100)]
        split <;> omega
      have hnb : -20 < z.tmod 20 ∧ z.tmod 20 < 20 := by
        rw [Int.tmod_eq_emod (a := z) (b := 20)]
        split <;> omega
      obtain ⟨x, hx⟩ : ∃ x, y.tmod 100 = x := ⟨_, rfl⟩
      obtain ⟨n, hn⟩ : ∃ n, z.tmod 20 = n := ⟨_, rfl⟩
      rw [hx] at hxb
      rw [hn] at hnb
      have hb : 0 ≤ (i : Int) ∧ (i : Int) < (n0 : Int) := by omega
      have hi40' : decide ((i : Int) < 40) = true := by simp; omega
      unfold i64ok at ok1 ok2
      clear hop hy hz hob hq0
      go_wp2_with fail
      go_region
      obtain ⟨wz, hwz⟩ : ∃ wz, wz = wr.drew := ⟨_, rfl⟩
      have P : Hid (AllS back w wz b c i v (.slice al L cl) K) := Lib.hid (by rw [hwz, HL.out]; exact O.out.quiet (Turn.drew [] wr))
      have HCEL : Hid (∀ j, j < L → ∃ g, al = some ⟨g, 0, none⟩ ∧ wz.cell? ⟨g, j, none⟩ = some (.int .i64 ((expK K).getD j 0))) := by
        refine Lib.hid (fun j hj => ?_)
        rcases HROW.out with ⟨-, h2, -⟩ | ⟨g, h1, -, -, h4⟩
        · rw [HL.out, h2] at hj
          exact absurd hj (Nat.not_lt_zero _)
        · exact ⟨g, h1, (by rw [hwz]; exact (Turn.drew [] wr).cell (h4 j (by rw [← HL.out]; exact hj)) (by simp))⟩
      have HSH : Hid ((al = none ∧ L = 0 ∧ cl = 0) ∨ ∃ g, al = some ⟨g, 0, none⟩) := by
        refine Lib.hid ?_
        rcases HROW.out with ⟨h1, h2, h3⟩ | ⟨g, h1, -⟩
        · exact .inl ⟨h1, by rw [HL.out, h2]; rfl, h3⟩
        · exact .inr ⟨g, h1⟩
      rw [← hwz]
      clear hwz O HROW hq1 hq2
      obtain ⟨kq, hkq⟩ : ∃ kq, kq = lowN (keyO back) K (keyO back x) := ⟨_, rfl⟩
      obtain ⟨gq, hgq⟩ : ∃ gq, gq = (getK (keyO back) K (keyO back x)).toNat := ⟨_, rfl⟩
      have hle := low_le K (keyO back x) P.out.lb.srt
      rw [← hkq, ← hgq, ← HL.out] at hle
      have HEI : Hid (∀ j, j < L → inI64 ((expK K).getD j 0)) := Lib.hid (fun j hj => by
        obtain ⟨p, hp, e⟩ := exp_mem (getD_mem (l := expK K) (i := j) (by rw [← HL.out]; exact hj))
        rw [← e]
        exact (P.out.lb.bag.nums p hp).1)
      have hxi : inI64 x := by unfold inI64; omega
      have CF : ∀ y, Hid (inI64 y → Calls Try.prog 47 #[.int .i64 y, .int .i64 x, .pointer (some ⟨c, 0, none⟩)] wz fun e w' => e = .returned (.int .i64 (cmpZ (keyO back y) (keyO back x))) ∧ w' = wz) := fun y => Lib.hid (fun hy => by
        rw [← byO back y x hy hxi]
        exact by1_calls back c y x wz P.out.kc)
      have HKQ := Lib.hid hkq
      have HGQ := Lib.hid hgq
      have HXI := Lib.hid hxi
      clear hkq hgq hxi
      go_upto_block 2 with fail
      go_cut [12] from 33 to 133 (fun vk wx => vk = .int .i64 (kq : Int) ∧ wx = wz)
      case first =>
        go_wp2_with fail
        go_loopw [12] (fun vk wx => ∃ j : Nat, j ≤ kq ∧ vk = .int .i64 (j : Int) ∧ wx = wz) (fun vk _ => L - (intOf vk).toNat)
        case atStart => exact ⟨0, by omega, rfl, rfl⟩
        case round =>
          obtain ⟨j, hj, rfl, rfl⟩ := hrel
          by_cases hjL : j < L
          · obtain ⟨g, rfl, hc⟩ := HCEL.out j hjL
            obtain ⟨y, hy⟩ : ∃ y, y = (expK K).getD j 0 := ⟨_, rfl⟩
            have C1 := Lib.hid ((CF y).out (by rw [hy]; exact HEI.out j hjL))
            rw [← hy] at hc
            have hbj : 0 ≤ (j : Int) ∧ (j : Int) < (L : Int) := by omega
            by_cases hjk : j < kq
            · have hd : cmpZ (keyO back y) (keyO back x) = -1 := by
                have := exp_lo (κ := keyO back) K (keyO back x) j (by rw [← HKQ.out]; exact hjk)
                rw [← hy] at this
                unfold cmpZ
                rw [if_pos this]
              rw [hd] at C1
              clear hd hy
              go_wp2_with fail
              refine C1.out.mono ?_
              rintro e w1 ⟨rfl, rfl⟩
              go_wp2
              go_roundw
              case rel => exact ⟨j + 1, by omega, by go_num, trivial⟩
              case measure => simp [intOf]; omega
            · have hd : ∃ d, cmpZ (keyO back y) (keyO back x) = d ∧ 0 ≤ d ∧ d ≤ 1 := by
                have hge : keyO back x ≤ keyO back y := by
                  rw [hy]
                  by_cases hjm : j < kq + gq
                  · rw [exp_mid (κ := keyO back) K (keyO back x) P.out.lb.srt j (by rw [← HKQ.out]; omega) (by rw [← HKQ.out, ← HGQ.out]; exact hjm)]
                    omega
                  · have := exp_hi (κ := keyO back) K (keyO back x) P.out.lb.srt j (by rw [← HKQ.out, ← HGQ.out]; omega) (by rw [← HL.out]; exact hjL)
                    omega
                refine ⟨_, rfl, ?_⟩
                unfold cmpZ
                rw [if_neg (show ¬ keyO back y < keyO back x by omega)]
                split <;> omega
              obtain ⟨d, hd, hd0, hd1⟩ := hd
              rw [hd] at C1
              have hjk2 : j = kq := by omega
              subst hjk2
              clear hd hy
              go_wp2_with fail
              refine C1.out.mono ?_
              rintro e w1 ⟨rfl, rfl⟩
              go_wp2_with fail
              go_meet
              case rel => exact ⟨rfl, rfl⟩
          · have hjk2 : j = kq := by omega
            subst hjk2
            go_wp2_with fail
            go_meet
            case rel => exact ⟨rfl, rfl⟩
      case rest =>
        obtain ⟨rfl, rfl⟩ := hcut
        clear CF
        go_upto_block 4 with fail
        go_cut [13] from 33 to 133 (fun vk wx => vk = .int .i64 (gq : Int) ∧ wx = wc)
        case first =>
          go_wp2_with fail
          go_loopw [13] (fun vk wx => ∃ j : Nat, j ≤ gq ∧ vk = .int .i64 (j : Int) ∧ wx = wc) (fun vk _ => L - (intOf vk).toNat)
          case atStart => exact ⟨0, by omega, rfl, rfl⟩
          case round =>
            obtain ⟨j, hj, rfl, rfl⟩ := hrel
            by_cases hjL : kq + j < L
            · obtain ⟨g, rfl, hc⟩ := HCEL.out (kq + j) hjL
              obtain ⟨y, hy⟩ : ∃ y, y = (expK K).getD (kq + j) 0 := ⟨_, rfl⟩
              have hyi := HEI.out (kq + j) hjL
              rw [← hy] at hc hyi
              have hbj : 0 ≤ (kq : Int) + (j : Int) ∧ (kq : Int) + (j : Int) < (L : Int) := by omega
              by_cases hjk : j < gq
              · have hyx : y = x := by
                  have := exp_mid (κ := keyO back) K (keyO back x) P.out.lb.srt (kq + j) (by rw [← HKQ.out]; omega) (by rw [← HKQ.out, ← HGQ.out]; omega)
                  rw [← hy] at this
                  exact keyO_inj hyi HXI.out this
                subst hyx
                clear hy hyi
                go_wp2_with fail
                go_roundw
                case rel => exact ⟨j + 1, by omega, by go_num, trivial⟩
                case measure => simp [intOf]; omega
              · have hyx : decide (y = x) = false := by
                  have := exp_hi (κ := keyO back) K (keyO back x) P.out.lb.srt (kq + j) (by rw [← HKQ.out, ← HGQ.out]; omega) (by rw [← HL.out]; exact hjL)
                  rw [← hy] at this
                  refine decide_eq_false (fun e => ?_)
                  rw [e] at this
                  omega
                have hyx2 : ¬ y = x := by simpa using hyx
                have hjk2 : j = gq := by omega
                subst hjk2
                clear hy hyi
                go_wp2_with fail
                go_meet
                case rel => exact ⟨rfl, rfl⟩
            · have hjk2 : j = gq := by omega
              subst hjk2
              have hn1 : ¬ (kq : Int) + (j : Int) < (L : Int) := by omega
              go_wp2_with fail
              go_meet
              case rel => exact ⟨rfl, rfl⟩
        case rest =>
          obtain ⟨rfl, rfl⟩ := hcut
          obtain ⟨wa, hwa⟩ : ∃ wa, wa = wc := ⟨_, rfl⟩
          subst hwa
          have hmx : 0 ≤ (kq : Int) ∧ (kq : Int) ≤ (L : Int) := by omega
          have hmc : (kq : Int) ≤ (cl : Int) := by omega
          have hg5 : gq ≤ 800 := by omega
          obtain ⟨N, hN⟩ : ∃ N : Nat, max 0 ((gq : Int) + n) = (N : Int) := ⟨(max 0 ((gq : Int) + n)).toNat, by omega⟩
          have hN8 : N ≤ 900 := by omega
          have HE : Hid (expK (addR (keyO back) K x n) = (expK K).take kq ++ List.replicate N x ++ (expK K).drop (kq + gq)) := by
            refine Lib.hid ?_
            have h1 := getK_le_tot (keyO back) P.out.lb.pos (keyO back x)
            have h2 : getK (keyO back) K (keyO back x) = (gq : Int) := by rw [HGQ.out]; omega
            rw [exp_add K x n P.out.lb.srt P.out.lb.pos (by omega) (fun p hp e => keyO_inj (P.out.lb.bag.nums p hp).1 HXI.out e), ← HKQ.out, ← HGQ.out, h2, hN]
            rfl
          obtain ⟨sq, hsq⟩ : ∃ sq : Nat, (kq : Int) + (gq : Int) = (sq : Int) := ⟨kq + gq, by omega⟩
          have hsq2 : 0 ≤ (sq : Int) ∧ (sq : Int) ≤ (L : Int) := by omega
          have HSQ : Hid (sq = kq + gq) := Lib.hid (by omega)
          go_upto_region 19 with fail
          go_cut [15] from 33 to 133 (fun vm wx => Turn [] wa wx ∧ wx.ownsRow 0 3 1 vm ((expK K).take kq).length (i64s ((expK K).take kq)) ∧ ∀ q, vm.ownBlock = some q → wa.heap.size ≤ q)
          case first =>
            have hkL : kq = ((expK K).take kq).length := by rw [List.length_take, ← HL.out]; omega
            have HKL := Lib.hid hkL
            clear hkL
            rcases HSH.out with ⟨rfl, rfl, rfl⟩ | ⟨g, rfl⟩
            · obtain rfl : kq = 0 := by omega
              go_wp2_with (at_builtin; refine append_ints rfl (.tmp 93) (.tmp 96) rfl (.slice none 0 0) [] rfl (World.ownsRow_nil _ _ _ _) none 0 0 [] rfl rfl (.inl ⟨rfl, rfl, rfl⟩) (by simp) ?_; intro v1 w1 r1 g1 o1)
              go_meet
              case rel =>
                refine ⟨Turn.grown g1 (fun k hk => by cases hk), by simpa using r1, fun q hq => ?_⟩
                rcases o1 with e | e <;> rw [hq] at e
                · cases e
                · cases e
                  exact Nat.le_refl _
            · have HSR : Hid (Sr wa (some ⟨g, 0, none⟩) cl ((expK K).take kq)) := Lib.hid (.inr ⟨⟨g, 0, none⟩, rfl, fun j hj => by
                rw [← HKL.out] at hj
                obtain ⟨g', e, h⟩ := HCEL.out j (by omega)
                cases e
                rw [Addr.add_lit, Nat.zero_add, h]
                simp [List.getD, hj]⟩)
              go_wp2_with (at_builtin; refine append_ints rfl (.tmp 93) (.tmp 96) rfl (.slice none 0 0) [] rfl (World.ownsRow_nil _ _ _ _) (some ⟨g, 0, none⟩) kq cl ((expK K).take kq) HKL.out rfl HSR.out (by rw [← HKL.out]; simp; omega) ?_; intro v1 w1 r1 g1 o1)
              go_meet
              case rel =>
                refine ⟨Turn.grown g1 (fun k hk => by cases hk), by simpa using r1, fun q hq => ?_⟩
                rcases o1 with e | e <;> rw [hq] at e
                · cases e
                · cases e
                  exact Nat.le_refl _
          case rest =>
            obtain ⟨tm, rm, om⟩ := hcut
            have TM := Lib.hid tm
            have RM := Lib.hid rm
            have OM := Lib.hid om
            clear tm rm om
            go_wp2_with fail
            go_loopw [15, 16] (fun vm vj wx => ∃ j : Nat, j ≤ N ∧ vj = .int .i64 (j : Int) ∧ Turn [] wa wx ∧ wx.ownsRow 0 3 1 vm ((expK K).take kq ++ List.replicate j x).length (i64s ((expK K).take kq ++ List.replicate j x)) ∧ ∀ q, vm.ownBlock = some q → wa.heap.size ≤ q) (fun _ vj _ => N - (intOf vj).toNat)
            case atStart => exact ⟨0, by omega, rfl, TM.out, by simpa using RM.out, OM.out⟩
            case round =>
              obtain ⟨j, hjN, rfl, tj, rj, oj⟩ := hrel
              have TJ := Lib.hid tj
              have RJ := Lib.hid rj
              have OJ := Lib.hid oj
              clear tj rj oj TM RM OM
              by_cases hj : j < N
              · go_wp2_with (at_builtin; refine append_ints rfl (.tmp 103) (.tmp 105) rfl _ ((expK K).take kq ++ List.replicate j x) rfl (ownsRow_turn RJ.out (Turn.alloc [] _ _) (fun _ _ => by simp)) _ 1 1 [x] rfl rfl (Sr.new _ _ _) (by simp; omega) ?_; intro v2 w2 r2 g2 o2)
                have T2 : Turn [] wa w2 := (TJ.out.trans (Turn.alloc [] _ _) (by simp)).trans (Turn.grown (l := _) g2 (fun k hk => .inl (Option.mem_toList.2 hk))) (fun q hq => .inr (OJ.out q (Option.mem_toList.1 hq)))
                have O2 : ∀ q, v2.ownBlock = some q → wa.heap.size ≤ q := fun q hq => by
                  rcases o2 with e | e <;> rw [hq] at e
                  · exact OJ.out q e.symm
                  · cases e
                    exact Nat.le_trans TJ.out.size (Turn.alloc [] _ _).size
                have R2 : w2.ownsRow 0 3 1 v2 ((expK K).take kq ++ List.replicate (j + 1) x).length (i64s ((expK K).take kq ++ List.replicate (j + 1) x)) := by
                  rw [List.replicate_succ', ← List.append_assoc]
                  exact r2
                have T2H := Lib.hid T2
                have O2H := Lib.hid O2
                have R2H := Lib.hid R2
                clear T2 O2 R2 r2 g2 o2
                go_roundw
                case rel => exact ⟨j + 1, by omega, by go_num, T2H.out, R2H.out, O2H.out⟩
                case measure => simp [intOf]; omega
              · obtain rfl : j = N := by omega
                go_upto_region 24 with fail
                go_cut [8] from 33 to 133 (fun vm wx => Turn [] wa wx ∧ wx.ownsRow 0 3 1 vm (expK (addR (keyO back) K x n)).length (i64s (expK (addR (keyO back) K x n))) ∧ ∀ q, vm.ownBlock = some q → wa.heap.size ≤ q)
                case first =>
                  rcases HSH.out with ⟨rfl, rfl, rfl⟩ | ⟨g, rfl⟩
                  · obtain rfl : kq = 0 := by omega
                    obtain rfl : gq = 0 := by omega
                    obtain rfl : sq = 0 := by omega
                    have hE0 : expK K = [] := List.eq_nil_of_length_eq_zero HL.out.symm
                    have HDR : Hid ([] = (expK K).drop 0) := Lib.hid (by rw [hE0]; rfl)
                    clear hE0
                    go_wp2_with (at_builtin; refine append_ints rfl (.tmp 107) (.tmp 112) rfl _ ((expK K).take 0 ++ List.replicate _ x) rfl RJ.out none 0 0 ((expK K).drop 0) (by rw [← HDR.out]; rfl) rfl (.inl ⟨rfl, rfl, HDR.out.symm⟩) (by rw [← HDR.out]; simp; omega) ?_; intro v1 w1 r1 g1 o1)
                    go_meet
                    case rel =>
                      refine ⟨TJ.out.trans (Turn.grown (l := _) g1 (fun k hk => .inl (Option.mem_toList.2 hk))) (fun q hq => .inr (OJ.out q (Option.mem_toList.1 hq))), ?_, fun q hq => ?_⟩
                      · rw [HE.out]
                        exact r1
                      · rcases o1 with e | e <;> rw [hq] at e
                        · exact OJ.out q e.symm
                        · cases e
                          exact TJ.out.size
                  · have HDL : Hid (L - sq = ((expK K).drop sq).length) := Lib.hid (by rw [List.length_drop, ← HL.out])
                    have HSR : Hid (Sr wr (some ⟨g, sq, none⟩) (cl - sq) ((expK K).drop sq)) := Lib.hid (.inr ⟨⟨g, sq, none⟩, rfl, fun j hj => by
                      rw [← HDL.out] at hj
                      obtain ⟨g', e, h⟩ := HCEL.out (sq + j) (by omega)
                      cases e
                      rw [Addr.add_lit, TJ.out.cell h (by simp)]
                      simp [List.getD]⟩)
                    by_cases hcs : sq < cl
                    · have hcs1 : (sq : Int) < (cl : Int) := by omega
                      have hcs2 : ¬ cl - sq = 0 := by omega
                      have hcs3 : ¬ (cl : Int) - (sq : Int) = 0 := by omega
                      have hcs4 : ¬ cl ≤ sq := by omega
                      go_wp2_with (at_builtin; refine append_ints rfl (.tmp 107) (.tmp 112) rfl _ ((expK K).take kq ++ List.replicate _ x) rfl RJ.out (some ⟨g, sq, none⟩) (L - sq) (cl - sq) ((expK K).drop sq) HDL.out rfl HSR.out (by rw [← HDL.out]; simp; omega) ?_; intro v1 w1 r1 g1 o1)
                      go_meet
                      case rel =>
                        refine ⟨TJ.out.trans (Turn.grown (l := _) g1 (fun k hk => .inl (Option.mem_toList.2 hk))) (fun q hq => .inr (OJ.out q (Option.mem_toList.1 hq))), ?_, fun q hq => ?_⟩
                        · rw [HE.out, ← HSQ.out]
                          exact r1
                        · rcases o1 with e | e <;> rw [hq] at e
                          · exact OJ.out q e.symm
                          · cases e
                            exact TJ.out.size
                    · obtain rfl : cl = sq := by omega
                      have HDL0 : Hid (0 = ((expK K).drop cl).length) := Lib.hid (by rw [← HDL.out]; omega)
                      have HSR0 : Hid (Sr wr (some ⟨g, 0, none⟩) 0 ((expK K).drop cl)) := Lib.hid (.inr ⟨⟨g, 0, none⟩, rfl, fun j hj => by
                        rw [← HDL0.out] at hj
                        exact absurd hj (Nat.not_lt_zero _)⟩)
                      have hLc : L = cl := by omega
                      clear HSR
                      go_wp2_with (at_builtin; refine append_ints rfl (.tmp 107) (.tmp 112) rfl _ ((expK K).take kq ++ List.replicate _ x) rfl RJ.out (some ⟨g, 0, none⟩) 0 0 ((expK K).drop cl) HDL0.out rfl HSR0.out (by rw [← HDL.out]; simp; omega) ?_; intro v1 w1 r1 g1 o1)
                      go_meet
                      case rel =>
                        refine ⟨TJ.out.trans (Turn.grown (l := _) g1 (fun k hk => .inl (Option.mem_toList.2 hk))) (fun q hq => .inr (OJ.out q (Option.mem_toList.1 hq))), ?_, fun q hq => ?_⟩
                        · rw [HE.out, ← HSQ.out]
                          exact r1
                        · rcases o1 with e | e <;> rw [hq] at e
                          · exact OJ.out q e.symm
                          · cases e
                            exact TJ.out.size
                case rest =>
                  obtain ⟨t8, r8, o8⟩ := hcut
                  have h1 := getK_le_tot (keyO back) P.out.lb.pos (keyO back x)
                  have h2 : getK (keyO back) K (keyO back x) = (gq : Int) := by rw [HGQ.out]; omega
                  have CA := P.out.add t8 (x := x) (n := n) HXI.out (by omega) (by omega) r8 o8
                  have hget := (addR_get K x n P.out.lb.srt P.out.lb.pos (κ := keyO back) (by omega)).1 (keyO back x)
                  rw [if_pos rfl] at hget
                  rw [h2, hN] at CA hget
                  obtain ⟨a8, c8, rfl, -⟩ := row_form r8
                  obtain ⟨K', hK'⟩ : ∃ K', K' = addR (keyO back) K x n := ⟨_, rfl⟩
                  rw [← hK'] at CA hget ⊢
                  have CAH := Lib.hid CA
                  have HGET := Lib.hid hget
                  clear CA hget h1 h2 t8 r8 o8 hK' HSH HCEL TJ RJ OJ
                  obtain ⟨L8, hL8'⟩ : ∃ L8, L8 = (expK K').length := ⟨_, rfl⟩
                  have HL8 := Lib.hid hL8'
                  rw [← hL8']
                  clear hL8'
                  go_wp2_with fail
                  refine CAH.out.mono ?_
                  rintro e w6 ⟨v6, rfl, h6⟩
                  have C2 := lb_count (ok := fun w => w.cell? ⟨c, 0, none⟩ = some (.bool back)) h6.lb (by1_ok back c) (byO back) h6.kc HXI.out
                  rw [HGET.out] at C2
                  have C2H := Lib.hid C2
                  have H6 := Lib.hid h6
                  clear C2 h6 CAH
                  go_wp2_with fail
                  refine C2H.out.mono ?_
                  rintro e w7 ⟨rfl, t7⟩
                  have H7 := Lib.hid (H6.out.quiet t7)
                  have ht7 := H7.out.tot
                  have C3 := lb_len H7.out.lb (by omega)
                  rw [← exp_len H7.out.lb.pos, ← HL8.out] at C3
                  have C3H := Lib.hid C3
                  clear C3 t7 H6 C2H ht7
                  go_wp2_with fail
                  refine C3H.out.mono ?_
                  rintro e w9 ⟨rfl, t9⟩
                  have H9 := Lib.hid (H7.out.quiet t9)
                  clear t9 H7 C3H
                  go_wp2_with fail
                  go_roundw
                  case rel => exact ⟨i + 1, v6, K', by omega, by omega, by go_num, by rw [HL8.out]; exact H9.out⟩
                  case measure => simp [intOf]; omega
    · have hex : ¬ i < n0 ∨ (i < n0 ∧ i = 40) := by omega
      have CE := eachI O.out.lb.bag
      obtain ⟨M, hM⟩ : ∃ M, M = K.length := ⟨_, rfl⟩
      have HM := Lib.hid hM
      rw [← hM] at CE
      have CEH := Lib.hid CE
      have hMf := O.out.lb.bag.few
      rw [← hM] at hMf
      clear CE hM
      rcases hex with h | ⟨h, rfl⟩ <;>
      · go_wp2_with fail
        refine CEH.out.mono ?_
        rintro e w6 ⟨rfl, r6, hb6⟩
        have H6 := Lib.hid (O.out.quiet (Turn.of_below hb6 []))
        have R6 := Lib.hid r6
        have T6 := Lib.hid (Turn.of_below hb6 [])
        have HG : Hid (wr.heap.size = wr.heap.size) := Lib.hid rfl
        obtain ⟨ge, hge⟩ : ∃ ge, ge = wr.heap.size := ⟨_, rfl⟩
        rw [← hge]
        have HGE := Lib.hid hge
        clear r6 hb6 CEH hge HG
        go_wp2_with fail
        go_loopw [18, 19] (fun vk vi wq => ∃ i : Nat, i ≤ L ∧ vi = .int .i64 (i : Int) ∧ vk = .int .i64 (kk K i : Int) ∧ Turn [] w6 wq) (fun _ vi _ => L - (intOf vi).toNat)
        case atStart => exact ⟨0, by omega, rfl, by rw [kk_zero]; rfl, Turn.refl _ _⟩
        case round =>
          obtain ⟨j, hj, rfl, rfl, t⟩ := hrel
          have H7 := Lib.hid (H6.out.quiet t)
          have T := Lib.hid t
          clear t
          by_cases hjL : j < L
          · have hjl : j < (expK K).length := by rw [← HL.out]; exact hjL
            have A1 := atI H7.out.lb.bag (j : Int) (by omega)
            rw [at_exp H7.out.lb.pos j hjl] at A1
            simp only [Option.getD_some, Option.isSome_some] at A1
            have hst := kk_step H7.out.lb.srt H7.out.lb.pos j hjl
            rcases HROW.out with ⟨-, h2, -⟩ | ⟨g, rfl, -, -, hc⟩
            · rw [h2] at hjl
              exact absurd hjl (Nat.not_lt_zero _)
            have cj := T.out.cell (T6.out.cell (hc j hjl) (by simp)) (by simp)
            obtain ⟨y, hy⟩ : ∃ y, y = (expK K).getD j 0 := ⟨_, rfl⟩
            have HY := Lib.hid hy
            rw [← hy] at A1 cj hst
            have C1 := Lib.hid A1
            have hbj : 0 ≤ (j : Int) ∧ (j : Int) < (L : Int) := by omega
            clear A1 hy
            rcases j with _ | j
            · have hs : starts K 0 := .inl rfl
              obtain ⟨e1, e2, e3⟩ := hst.1 hs
              have ce : wr.cell? ⟨ge, kk K 0, none⟩ = some (.int .i64 y) := by
                have := R6.out.cells (g := ge) (by rw [HGE.out]; rfl) (kk K 0) (.int .i64 y) (by rw [← e3]; simp [List.getD, e2])
                rw [Addr.add_lit, Nat.zero_add] at this
                exact T.out.cell this (by simp)
              obtain ⟨q, hq⟩ : ∃ q, q = kk K 0 := ⟨_, rfl⟩
              rw [← hq] at e1 e2 ce ⊢
              rw [← HM.out] at e2
              have hqb : 0 ≤ (q : Int) ∧ (q : Int) < (M : Int) := by omega
              have hqm : ¬ (M : Int) ≤ (q : Int) := by omega
              have E1 := Lib.hid e1
              clear hst e1 e3 hq
              go_wp2_with fail
              refine C1.out.mono ?_
              rintro e w8 ⟨rfl, rfl⟩
              clear C1
              go_wp2_with fail
              go_quiet (fail)
              go_wp2_with fail
              go_quiet (fail)
              go_wp2_with fail
              go_roundw
              case rel => exact ⟨0 + 1, by omega, by go_num, by rw [E1.out]; go_num, T.out.trans (Turn.drewN [] _ _) (by simp)⟩
              case measure => simp [intOf]; omega
            · have c1 := T.out.cell (T6.out.cell (hc j (by omega)) (by simp)) (by simp)
              obtain ⟨y1, hy1⟩ : ∃ y1, y1 = (expK K).getD j 0 := ⟨_, rfl⟩
              rw [← hy1] at c1
              have hbj1 : 0 ≤ (j : Int) ∧ (j : Int) < (L : Int) := by omega
              have hj0 : ¬ (j : Int) + 1 = 0 := by omega
              have hjb : 0 ≤ (j : Int) + 1 ∧ (j : Int) + 1 < (L : Int) := by omega
              have hjt : ((j : Int) + 1).toNat = j + 1 := by omega
              have hjw : IntKind.i64.wrap (j : Int) = (j : Int) := by rw [IntKind.wrap_i64]; omega
              by_cases hyy : y = y1
              · have hs : ¬ starts K (j + 1) := by
                  rintro (h | h)
                  · omega
                  · exact h (by rw [← HY.out, hyy, hy1]; rfl)
                subst hyy
                clear hy1
                have e1 := hst.2 hs
                obtain ⟨q, hq⟩ : ∃ q, q = kk K (j + 1) := ⟨_, rfl⟩
                rw [← hq] at e1 ⊢
                have E1 := Lib.hid e1
                clear hst e1 hq
                go_wp2_with fail
                refine C1.out.mono ?_
                rintro e w8 ⟨rfl, rfl⟩
                clear C1
                go_wp2_with fail
                go_quiet (fail)
                go_wp2_with fail
                go_roundw
                case rel => exact ⟨(j + 1) + 1, by omega, by go_num, by rw [E1.out], T.out.trans (Turn.drewN [] _ _) (by simp)⟩
                case measure => simp [intOf]; omega
              · have hs : starts K (j + 1) := .inr (by rw [← HY.out]; intro e; exact hyy (by rw [e, hy1]; rfl))
                have hyn : (y != y1) = true := by simpa using hyy
                clear hy1 hyy
                obtain ⟨e1, e2, e3⟩ := hst.1 hs
                have ce : wr.cell? ⟨ge, kk K (j + 1), none⟩ = some (.int .i64 y) := by
                  have := R6.out.cells (g := ge) (by rw [HGE.out]; rfl) (kk K (j + 1)) (.int .i64 y) (by rw [← e3]; simp [List.getD, e2])
                  rw [Addr.add_lit, Nat.zero_add] at this
                  exact T.out.cell this (by simp)
                obtain ⟨q, hq⟩ : ∃ q, q = kk K (j + 1) := ⟨_, rfl⟩
                rw [← hq] at e1 e2 ce ⊢
                rw [← HM.out] at e2
                have hqb : 0 ≤ (q : Int) ∧ (q : Int) < (M : Int) := by omega
                have hqm : ¬ (M : Int) ≤ (q : Int) := by omega
                have E1 := Lib.hid e1
                clear hst e1 e3 hq
                go_wp2_with fail
                refine C1.out.mono ?_
                rintro e w8 ⟨rfl, rfl⟩
                clear C1
                go_wp2_with fail
                go_quiet (fail)
                go_wp2_with fail
                go_quiet (fail)
                go_wp2_with fail
                go_roundw
                case rel => exact ⟨(j + 1) + 1, by omega, by go_num, by rw [E1.out]; go_num, T.out.trans (Turn.drewN [] _ _) (by simp)⟩
                case measure => simp [intOf]; omega
          · obtain rfl : j = L := by omega
            have hkk : kk K j = M := by rw [HL.out, HM.out]; exact kk_end H7.out.lb.pos
            have A1 := atI H7.out.lb.bag (j : Int) (by omega)
            rw [at_none H7.out.lb.pos j (by rw [HL.out]; exact Nat.le_refl _)] at A1
            have C1 := Lib.hid A1
            have CN := fun w => Lib.hid (atI_neg (b := b) (-1) (by omega) w)
            have CK := kindsI H7.out.lb.bag
            rw [← HM.out] at CK
            have CKH := Lib.hid CK
            have B7 := Lib.hid H7.out.bel
            rw [hkk]
            clear A1 CK hkk
            go_wp2_with fail
            refine C1.out.mono ?_
            rintro e w8 ⟨rfl, rfl⟩
            go_wp2_with fail
            refine (CN _).out.mono ?_
            rintro e w9 ⟨rfl, rfl⟩
            go_wp2_with fail
            refine CKH.out.mono ?_
            rintro e w10 ⟨rfl, rfl⟩
            clear CKH CN C1
            go_wp2
            go_ret
            exact ⟨rfl, B7.out⟩

end Go.Proofs.Ytikbldnekehodaa
