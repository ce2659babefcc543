/-
  The walk of the law's own 'same'.
-/
import Derived.Test.YtlcilbbgfilefaaRise
import Derived.Test.YtlcilbbgfilefaaRefFall
namespace Go.Proofs.Ytlcilbbgfilefaa
open Go.RowKit Go.Maps Go.Sort

theorem row_form {w : World} {base : Nat} {e : TypeId} {size : Nat} {v : Value} {n : Nat} {xs : List Value} (h : w.ownsRow base e size v n xs) : ∃ ao cap, v = .slice ao n cap := by
  rcases h.2 with ⟨rfl, h0⟩ | ⟨g, cap, cur, rfl, _⟩
  · exact ⟨none, 0, by rw [h0]⟩
  · exact ⟨_, cap, rfl⟩

set_option maxHeartbeats 4000000 in
set_option maxRecDepth 100000 in
theorem same_calls {d r room : Nat} {l k : List Nat} {M : List Fm} (w : World) (hd : DiskM w d room l M) (hr : RefM w r room k M) (hfew : M.length ≤ 400000) :
    Calls Try.prog 18 #[.pointer (some ⟨d, 0, none⟩), .pointer (some ⟨r, 0, none⟩)] w fun e w' => e = .returned (.bool true) ∧ Below w.heap.size w w' := by
  have CN := Lib.hid (names_calls w hd (by omega))
  have hnd := hd.nodup
  have htot := hd.total
  have HD := Lib.hid hd
  have HR := Lib.hid hr
  have HND := Lib.hid hnd
  clear hd hr hnd
  go_enter Try.func18, Try.ntmps18
  go_wp2_with fail
  refine CN.out.mono ?_
  rintro e w1 ⟨v, ss, rfl, hss, hrow, hb1⟩
  have hlen : (sortedN ss).length = ss.length := (List.mergeSort_perm _ _).length_eq
  have hlm : ss.length = M.length := by simpa using hss.length_eq
  obtain ⟨aon, capn, rfl⟩ := row_form hrow
  have hr1 := HR.out.turn (Turn.of_below hb1 []) (by simp)
  obtain ⟨ao1, cap1, c1⟩ := hr1.len
  have hd1 := HD.out.turn (Turn.of_below hb1 []) (by simp)
  have CU := Lib.hid (used_calls _ _ _ _ _ hd1)
  have HD1 := Lib.hid hd1
  have CV := Lib.hid (refUsed_calls _ hr1)
  have HROW := Lib.hid hrow
  have HB1 := Lib.hid hb1
  have HR1 := Lib.hid hr1
  have HSS := Lib.hid hss
  have HLEN := Lib.hid hlen
  rw [hlm] at *
  obtain ⟨N, hN⟩ : ∃ N, N = M.length := ⟨_, rfl⟩
  rw [← hN] at c1 hfew ⊢
  have HN := Lib.hid hN
  clear hrow hb1 hr1 hd1 hss hlen hlm hN
  generalize tot M = T at *
  go_wp2_with fail
  refine CU.out.mono ?_
  rintro e w' ⟨rfl, rfl⟩
  go_wp2_with fail
  refine CV.out.mono ?_
  rintro e w' ⟨rfl, rfl⟩
  go_wp2_with fail
  go_loopw [6] (fun i wr => ∃ j : Nat, j ≤ N ∧ i = .int .i64 j ∧ Below w1.heap.size w1 wr) (fun i _ => N - (intOf i).toNat)
  case atStart => exact ⟨0, by omega, rfl, Below.refl _ _⟩
  case round =>
    obtain ⟨j, hj, rfl, hbr⟩ := hrel
    have HBR := Lib.hid hbr
    clear hbr
    by_cases hlt : j < N
    · obtain ⟨ns, hns⟩ : ∃ ns, ns = sortedN ss := ⟨_, rfl⟩
      have hnl : ns.length = N := by rw [hns, HLEN.out, HN.out]
      have hjn : j < ns.length := by omega
      have hrow1 := HROW.out
      rw [← HN.out, ← hns, ← hnl] at hrow1
      have hgn : ∃ gn, aon = some ⟨gn, 0, none⟩ := by
        rcases hrow1.2 with ⟨h0, _⟩ | ⟨g', cap', cur, hv, _⟩
        · injection h0 with _ h0 _
          omega
        · injection hv with hv _ _
          exact ⟨g', hv⟩
      obtain ⟨gn, rfl⟩ := hgn
      have hrow := ownsRow_turn hrow1 (Turn.of_below HBR.out []) (by simp)
      have q1 := strs_at hrow hjn
      have hp : ns.Perm (M.map Fm.name) := by rw [hns]; exact (List.mergeSort_perm _ _).trans HSS.out
      have hmem : ns[j] ∈ M.map Fm.name := hp.mem_iff.1 (List.getElem_mem hjn)
      have hrise : ∀ i (hi : i + 1 < ns.length), ¬ ns[i + 1] ≤ ns[i]'(by omega) := by subst hns; exact fun i hi => sortedN_next (HSS.out.nodup_iff.2 HND.out) i hi
      have hprev : ∀ i, i + 1 = j → ∃ p : List UInt8, wr.cell? ⟨gn, i, none⟩ = some (.string ⟨p.toArray⟩) ∧ ¬ ns[j] ≤ p := by
        intro i hi
        subst hi
        exact ⟨ns[i], strs_at hrow (by omega), hrise i hjn⟩
      obtain ⟨f, hf, hfn⟩ := List.mem_map.1 hmem
      obtain ⟨M1, M2, hM⟩ := List.append_of_mem hf
      rw [← hfn] at q1
      have hrr := HR1.out.turn (Turn.of_below HBR.out []) (by simp)
      have hdr := HD1.out.turn (Turn.of_below HBR.out []) (by simp)
      rw [hM] at hrr hdr
      have hnd := HND.out
      rw [hM] at hnd
      have CA := Lib.hid (fun nq => refAt_some _ (hrr.turn (Turn.drewN [] wr nq) (by simp)) hnd)
      obtain ⟨g, cap, N2, ao2, c2, e1, eN, elt, ele, ecap, e0, eb, es, en, esl, -⟩ := hrr.look
      rw [← hM, ← HN.out] at eN
      subst eN
      rw [← hfn] at hprev
      have hcn : N2 ≤ capn ∧ capn ≤ 9223372036854775807 := by
        rcases hrow1.2 with ⟨h0, _⟩ | ⟨g', cap', cur, hv, _, _, h1, h2, _⟩
        · cases h0
        · cases hv
          exact ⟨by omega, by unfold maxLen at h2; omega⟩
      have CT := Lib.hid (fun x (t : Turn [] wr x) => refAt_some x (hrr.turn t (by simp)) hnd)
      have CS := Lib.hid (fun nq => sure_some _ (hdr.turn (Turn.drewN [] wr nq) (by simp)))
      have HRR := Lib.hid hrr
      have HDR := Lib.hid hdr
      have HPV := Lib.hid hprev
      have HSL := Lib.hid esl
      obtain ⟨nm, hnm⟩ : ∃ nm, nm = f.name := ⟨_, rfl⟩
      obtain ⟨k0, hk0⟩ : ∃ k0, k0 = M1.length := ⟨_, rfl⟩
      rw [← hnm] at CA CS CT HPV q1 e0
      rw [← hk0] at CA CT e0 eb es en elt
      have HNM := Lib.hid hnm
      have HK0 := Lib.hid hk0
      clear hns hnl hjn hrow1 hrow hp hmem hrise hprev hf hfn hM hrr hdr hnd esl hnm hk0
      have hltj : (j : Int) < (N2 : Int) := by omega
      go_upto_region 7 with fail
      go_cut [55] from 27 to 97 (fun v wx => v = .bool false ∧ ∃ q, wx = wr.drewN q)
      case first =>
        clear e1 e0 eb es en CT CS
        cases j with
        | zero =>
          go_wp2_with fail
          go_quiet ((go_at_call 37; exact Calls.quiet_of_same ((CA.out _).mono fun _ _ h => ⟨h.1, h.2.symm⟩)))
          go_wp2_with fail
          go_meet
          exact ⟨rfl, _, rfl⟩
        | succ i =>
          obtain ⟨pv, hc, hle⟩ := HPV.out i rfl
          have f1 : (i : Int) + 1 < (N2 : Int) := by omega
          have f2 : (0 : Int) ≤ (i : Int) + 1 := by omega
          have f5 : (i : Int) < (N2 : Int) := by omega
          have f6 : (0 : Int) < (i : Int) + 1 := by omega
          have f3 : ((i : Int) + 1).toNat = i + 1 := by omega
          have f4 : IntKind.i64.wrap (i : Int) = (i : Int) := IntWalk.i64_in _ (by omega)
          have f7 : Op.bytesLess nm pv = false := by rw [bytesLess_eq]; simp; exact fun h => hle (List.le_of_lt h)
          have f8 : (nm == pv) = false := by
            rw [beq_eq_false_iff_ne]
            rintro rfl
            exact hle (List.le_refl _)
          clear hltj hle
          go_wp2_with fail
          go_quiet ((go_at_call 37; exact Calls.quiet_of_same ((CA.out _).mono fun _ _ h => ⟨h.1, h.2.symm⟩)))
          go_wp2_with fail
          go_meet
          exact ⟨rfl, _, rfl⟩
      case rest =>
        obtain ⟨rfl, q, hx⟩ := hcut
        have t1 : Turn [] wr wc := by rw [hx]; exact Turn.drewN [] wr _
        clear hx
        obtain ⟨x1, hx1⟩ : ∃ x1, x1 = wc := ⟨_, rfl⟩
        subst hx1
        have C1 := Lib.hid (CT.out x1.drew (t1.trans (Turn.drew [] _) (by simp)))
        have C2 := Lib.hid (fun o => CT.out (x1.alloc o).drew ((t1.trans (Turn.alloc [] _ o) (by simp)).trans (Turn.drew [] _) (by simp)))
        have p1 := t1.cell q1 (by simp)
        have p2 := t1.cell e1 (by simp)
        have p3 := t1.cell e0 (by simp)
        have p4 := t1.cell eb (by simp)
        have p5 := t1.cell es (by simp)
        have p6 := t1.cell en (by simp)
        have HT1 := Lib.hid t1
        clear q1 e1 e0 eb es en t1 CA
        have elt2 : (k0 : Int) < (N2 : Int) := by omega
        obtain ⟨nl, hnl⟩ : ∃ nl, nl = f.b.length := ⟨_, rfl⟩
        obtain ⟨su, hsu⟩ : ∃ su, su = f.sure := ⟨_, rfl⟩
        obtain ⟨nd, hnd⟩ : ∃ nd, nd = f.named := ⟨_, rfl⟩
        rw [← hnl] at p4
        rw [← hsu] at p5 CS
        rw [← hnd] at p6
        have HNL := Lib.hid hnl
        have HSU := Lib.hid hsu
        clear hnl hsu hnd
        go_upto_region 9 with fail
        go_cut [7] from 27 to 97 (fun v wx => ∃ b5, v = .pointer (some ⟨b5, 0, none⟩) ∧ Turn [] x1 wx ∧ wx.cell? ⟨b5, 1, none⟩ = some (.slice ao2 nl c2) ∧ wx.cell? ⟨b5, 2, none⟩ = some (.int .i64 (su : Int)))
        case first =>
          go_region_held3 (fun w' => w'.cell? ⟨gn, j, none⟩ = some (.string ⟨nm.toArray⟩) ∧ w'.cell? ⟨r, 1, none⟩ = some (.slice (some ⟨g, 0, none⟩) N2 cap) ∧ w'.cell? ⟨g, k0 * 4, none⟩ = some (.string ⟨nm.toArray⟩) ∧ w'.cell? ⟨g, k0 * 4 + 1, none⟩ = some (.slice ao2 nl c2) ∧ w'.cell? ⟨g, k0 * 4 + 2, none⟩ = some (.int .i64 (su : Int)) ∧ w'.cell? ⟨g, k0 * 4 + 3, none⟩ = some (.bool nd))
            (go_keep)
            (first | (go_at_call 37; (first | ((with_reducible refine C1.out.mono ?_); rintro e w' ⟨rfl, rfl⟩) | ((with_reducible refine (C2.out _).mono ?_); rintro e w' ⟨rfl, rfl⟩))))
          all_goals go_wp2_with fail
          all_goals go_meet
          all_goals
            refine ⟨_, rfl, (Turn.alloc [] _ _).trans (Turn.drew [] _) (by simp), ?_, ?_⟩
            · show (x1.alloc _).cell? ⟨_, 1, none⟩ = _
              rw [cell_of_row _ _ 1 _ _ _ (heap_alloc_new x1 _)]
              rfl
            · show (x1.alloc _).cell? ⟨_, 2, none⟩ = _
              rw [cell_of_row _ _ 2 _ _ _ (heap_alloc_new x1 _)]
              rfl
        case rest =>
          obtain ⟨b5, rfl, t2, s1, s2⟩ := hcut
          obtain ⟨x5, hx5⟩ : ∃ x5, x5 = wc := ⟨_, rfl⟩
          subst hx5
          have t5 := HT1.out.trans t2 (by simp)
          have CR := read_some x5 (HDR.out.turn t5 (by simp))
          rw [← HNM.out] at CR
          have CRH := Lib.hid CR
          have r1 := t2.cell p1 (by simp)
          have HT5 := Lib.hid t5
          clear CR t2 t5 p1 p2 p3 p4 p5 p6 C1 C2 CT CS
          go_wp2_with fail
          refine CRH.out.mono ?_
          rintro e w6 ⟨v, rfl, hrow6, hb6⟩
          obtain ⟨ao6, c6, rfl, hs6, -⟩ := row_read hrow6
          have t6 := HT5.out.trans (Turn.of_below hb6 []) (by simp)
          have g1 := fun nq => conv_sl (hs6.turn (Turn.drewN [] w6 nq) (by simp)) (n := nl) HNL.out
          have g2 := fun nq => conv_sl ((HSL.out.turn t6 (by simp)).turn (Turn.drewN [] w6 nq) (by simp)) (n := nl) HNL.out
          have C6 := Lib.hid (fun nq => sure_some _ ((HDR.out.turn t6 (by simp)).turn (Turn.drewN [] w6 nq) (by simp)))
          rw [← HNM.out, ← HSU.out] at C6
          have r6 := (Turn.of_below hb6 []).cell r1 (by simp)
          have v1 := (Turn.of_below hb6 []).cell s1 (by simp)
          have v2 := (Turn.of_below hb6 []).cell s2 (by simp)
          have HT6 := Lib.hid t6
          rw [← HNL.out]
          generalize f.b = fb at g1 g2
          clear hrow6 hs6 hb6 t6 r1 s1 s2
          go_wp2_with fail
          go_quiet ((go_at_call 32; exact Calls.quiet_of_same ((C6.out _).mono fun _ _ h => ⟨h.1, h.2.symm⟩)))
          go_wp2
          go_roundw
          case rel => exact ⟨j + 1, by omega, by go_num, HBR.out.trans (((HT6.out.trans (Turn.drewN [] _ _) (by simp)).belowAll).mono HBR.out.size)⟩
          case measure => simp [intOf]; omega
    · go_wp2
      go_ret
      exact ⟨rfl, HB1.out.trans (HBR.out.mono HB1.out.size)⟩

end Go.Proofs.Ytlcilbbgfilefaa
