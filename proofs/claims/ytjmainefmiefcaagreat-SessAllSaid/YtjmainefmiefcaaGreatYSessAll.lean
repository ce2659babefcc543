/-
  Of the texts SessAllWalk SessAll, in build order, each as it was built alone.
-/
import Derived.Test.YtjmainefmiefcaaGreatPkAK
import Derived.Test.YtjmainefmiefcaaGreatPkAJ
import Derived.Deep.CutRange
import Derived.Deep.RegionWith
import Derived.OpenShut
import Derived.BigQuiet
import Derived.Test.YtjmainefmiefcaaGreatRows
import Derived.Test.YtjmainefmiefcaaGreatPkAD
import Derived.Test.YtjmainefmiefcaaGreatPkAH
import Derived.ProofKit
import Derived.ShutString
import Derived.ChangeOld
import Derived.Below

/-
  The walk of the law SessAll, over the contracts of a Sessions.
-/
namespace Go.Proofs.YtjmainefmiefcaaGreat
open Go.RowKit

variable {Ses : World → List Nat → Nat → Int → Nat → Int → Nat → List Sq → Prop}

theorem restS25 (x : Int) : (x.tmod 25 + 25).tmod 25 = x % 25 := by
  have h0 := Int.tmod_eq_emod (a := x) (b := 25)
  rw [Int.tmod_eq_emod_of_nonneg (by split at h0 <;> omega)]
  split at h0 <;> omega

theorem restB25 (x : Int) : -25 < x.tmod 25 ∧ x.tmod 25 < 25 := by
  rw [Int.tmod_eq_emod (a := x) (b := 25)]
  split <;> omega

theorem restS4 (x : Int) : (x.tmod 4 + 4).tmod 4 = x % 4 := by
  have h0 := Int.tmod_eq_emod (a := x) (b := 4)
  rw [Int.tmod_eq_emod_of_nonneg (by split at h0 <;> omega)]
  split at h0 <;> omega

theorem restB4 (x : Int) : -4 < x.tmod 4 ∧ x.tmod 4 < 4 := by
  rw [Int.tmod_eq_emod (a := x) (b := 4)]
  split <;> omega

theorem restS8 (x : Int) : (x.tmod 8 + 8).tmod 8 = x % 8 := by
  have h0 := Int.tmod_eq_emod (a := x) (b := 8)
  rw [Int.tmod_eq_emod_of_nonneg (by split at h0 <;> omega)]
  split at h0 <;> omega

theorem restB8 (x : Int) : -8 < x.tmod 8 ∧ x.tmod 8 < 8 := by
  rw [Int.tmod_eq_emod (a := x) (b := 8)]
  split <;> omega

theorem mkS_eq {br i : Int} (hb : 1 ≤ br ∧ br ≤ 8) (h1 : 1 ≤ i) (h2 : i ≤ 2000) : makeZ br i = br * 4294967296 + i := by
  unfold makeZ
  rw [if_pos ⟨by unfold brokerB; simp; omega, h1, by omega⟩]

theorem five_cells {w : World} {g : Nat} {v0 v1 v2 v3 v4 : Value} {t : TypeId} (h : w.heap[g]? = some (.cells #[v0, v1, v2, v3, v4] t)) : w.cell? ⟨g, 0, none⟩ = some v0 ∧ w.cell? ⟨g, 1, none⟩ = some v1 ∧ w.cell? ⟨g, 2, none⟩ = some v2 ∧ w.cell? ⟨g, 3, none⟩ = some v3 ∧ w.cell? ⟨g, 4, none⟩ = some v4 := by
  refine ⟨?_, ?_, ?_, ?_, ?_⟩ <;> rw [cell_of_row _ _ _ _ _ _ h] <;> rfl

theorem src_three {w : World} {q : Nat} {v0 v1 v2 : Value} {T : TypeId} (h : w.heap[q]? = some (.cells #[v0, v1, v2] T)) : Src 3 w (some ⟨q, 0, none⟩) 1 1 [v0, v1, v2] := by
  refine .inr ⟨_, rfl, rfl, fun j z hj => ?_⟩
  rw [Addr.add_lit, cell_of_row _ _ _ _ _ _ h]
  simpa using hj

theorem sr_row {w : World} {base : Nat} {ao : Option Addr} {n c : Nat} {l : List Int} (h : w.ownsRow base 2 1 (.slice ao n c) l.length (i64s l)) : Sr w ao c l := by
  rcases h.2 with ⟨e, h0⟩ | ⟨g, cap, cur, e, -⟩
  · injection e with e1 e2 e3
    exact .inl ⟨e1, e3, List.eq_nil_of_length_eq_zero h0⟩
  · injection e with e1 e2 e3
    refine .inr ⟨_, e1, fun j hj => ?_⟩
    refine h.cells (g := g) (by rw [e1]; rfl) j (.int .i64 (l.getD j 0)) ?_
    rw [i64s, List.getElem?_map, List.getElem?_eq_getElem hj]
    simp [List.getD, hj]

theorem cell_one {w : World} {x : Value} {t : TypeId} {q : Nat} (hq : q = w.heap.size) : (w.alloc (.cells #[x] t)).cell? ⟨q, 0, none⟩ = some x := by
  subst hq
  exact cell_new _ _ _

/-- The numbers of the list, and the transactions. -/
def Tk (S : List Sq) : Prop := S.length ≤ 20 ∧ ∀ q ∈ S, 0 ≤ q.tid ∧ q.tid ≤ 3

set_option maxHeartbeats 16000000 in
set_option maxRecDepth 100000 in
theorem sessAll_walk (F : SF Ses) (hbg : BegunOk) {w : World} (bk : Int) (hbk : (Lit.int .i64 bk).wf = true) (ao : Option Addr) (cap : Nat) (l : List Ov) (hl : Ol w ao cap l) : Calls Tryz.prog 5 #[.int .i64 bk, .slice ao l.length cap] w fun e w' => e = .returned (.bool true) ∧ Below w.heap.size w w' := by
  have hbb := Go.bounds_i64 hbk
  have HL := Lib.hid hl
  have hlen := hl.len
  obtain ⟨n, hn⟩ : ∃ n, n = l.length := ⟨_, rfl⟩
  have HN := Lib.hid hn
  rw [← hn] at hlen ⊢
  clear hl hn hbk
  have ea := restS8 bk
  have ba := restB8 bk
  obtain ⟨y, hy⟩ : ∃ y, y = bk % 8 := ⟨_, rfl⟩
  rw [← hy] at ea
  have hy8 : 0 ≤ y ∧ y ≤ 7 := by omega
  clear hy
  go_enter Tryz.func5, Tryz.ntmps5
  go_wp2_with fail
  refine (hbg w).mono ?_
  rintro e w1 ⟨rfl, b1⟩
  have B1 := Lib.hid b1
  clear b1
  go_wp2_with fail
  obtain ⟨br, hbr⟩ : ∃ br, br = 1 + y := ⟨_, rfl⟩
  rw [← hbr]
  have HBR : Hid (1 ≤ br ∧ br ≤ 8) := Lib.hid (by omega)
  clear ea ba hy8 hbr hbb
  refine (sw_new F B1.out br HBR.out).mono ?_
  rintro e w2 ⟨b, rfl, h2, -⟩
  have O2 : Hid (Aw Ses w w2 [] (.slice none 0 0) b br 0 0 0 [] 0 []) := Lib.hid ⟨World.ownsRow_nil _ _ _ _, So.start h2⟩
  clear h2 B1
  go_wp2_with fail
  go_loopw [7, 8, 9] (fun vw vm vi wx => ∃ (k made ns : Nat) (ticks : Int) (S : List Sq), k ≤ n ∧ k ≤ 80 ∧ made ≤ k ∧ ns ≤ k ∧ (0 ≤ ticks ∧ ticks ≤ (k : Int)) ∧ vi = .int .i64 (k : Int) ∧ vm = .int .i64 (made : Int) ∧ Tk S ∧ Aw Ses w wx [] vw b br made ticks ns S ticks S) (fun _ _ vi _ => 81 - (intOf vi).toNat)
  case atStart => exact ⟨0, 0, 0, 0, [], by omega, by omega, by omega, by omega, by omega, rfl, rfl, ⟨by simp, by simp⟩, O2.out⟩
  case round => as_aux_lemma =>
    obtain ⟨k, made, ns, ticks, S, hk, hk8, hmd, hns, htk, rfl, rfl, hT, ho⟩ := hrel
    have O := Lib.hid ho
    have HT := Lib.hid hT
    have HMD := Lib.hid hmd
    have HNS := Lib.hid hns
    have HTK := Lib.hid htk
    obtain ⟨aw, cw, hvw⟩ := row_slice ho.row
    subst hvw
    obtain ⟨m, hm⟩ : ∃ m, m = S.length := ⟨_, rfl⟩
    have HM := Lib.hid hm
    have hm20 : (m : Int) ≤ 20 := by have := hT.1; omega
    rw [← hm] at O ⊢
    clear ho O2 hT hmd hns htk hm
    by_cases hkn : k < n ∧ k < 80
    · obtain ⟨hk1, hk2⟩ := hkn
      have hkl : k < l.length := by rw [← HN.out]; exact hk1
      obtain ⟨bq, off, hao, hok, d0, d1, d2, d3, d4⟩ := HL.out.at O.out.bel hkl
      obtain ⟨kd, hkd⟩ : ∃ x, x = (l.getD k ov0).kind := ⟨_, rfl⟩
      obtain ⟨tt, htt⟩ : ∃ x, x = (l.getD k ov0).t := ⟨_, rfl⟩
      obtain ⟨uu, huu⟩ : ∃ x, x = (l.getD k ov0).u := ⟨_, rfl⟩
      obtain ⟨sq, hsq⟩ : ∃ x, x = (l.getD k ov0).q := ⟨_, rfl⟩
      obtain ⟨sb, hsb⟩ : ∃ x, x = (l.getD k ov0).b := ⟨_, rfl⟩
      obtain ⟨hok0, hok1, hok2, hok3, hok4⟩ := hok
      rw [← hkd] at d0 hok0
      rw [← htt] at d1 hok1
      rw [← huu] at d2 hok2
      rw [← hsq] at d3 hok3
      rw [← hsb] at d4 hok4
      unfold inI64 at hok1 hok2
      have HK1 := Lib.hid hk1
      have HK2 := Lib.hid hk2
      have hb : 0 ≤ (k : Int) ∧ (k : Int) < (n : Int) := by omega
      have hi80 : (k : Int) < 80 := by omega
      have ea := restS25 tt
      have ba := restB25 tt
      obtain ⟨i0, hi0⟩ : ∃ x, x = tt % 25 := ⟨_, rfl⟩
      rw [← hi0] at ea
      have hi25 : 0 ≤ i0 ∧ i0 ≤ 24 := by omega
      have eb := restS4 uu
      have bb := restB4 uu
      obtain ⟨t, ht⟩ : ∃ x, x = uu % 4 := ⟨_, rfl⟩
      rw [← ht] at eb
      have HTT : Hid (0 ≤ t ∧ t ≤ 3) := Lib.hid (by omega)
      have MK := Lib.hid (fun z => refMake_calls br (1 + i0) z)
      have HXX : Hid (makeZ br (1 + i0) = br * 4294967296 + (1 + i0)) := Lib.hid (mkS_eq HBR.out (by omega) (by omega))
      obtain ⟨x, hx⟩ : ∃ x, x = makeZ br (1 + i0) := ⟨_, rfl⟩
      rw [← hx] at MK HXX
      have HX64 : Hid (inI64 x) := Lib.hid (by rw [HXX.out]; have := HBR.out; unfold inI64; omega)
      have HAO := Lib.hid hao
      subst hao
      clear hkd htt huu hsq hsb hk1 hk2 hkl hok0 hk hk8 hi0 ht hx
      have hbx := heap_alloc_new wr (.cells #[.int .i64 kd, .int .i64 tt, .int .i64 uu, .string sq, .string sb] 30)
      obtain ⟨e0, e1, e2, e3, e4⟩ := five_cells hbx
      have T1 := Lib.hid (Turn.alloc [] wr (.cells #[.int .i64 kd, .int .i64 tt, .int .i64 uu, .string sq, .string sb] 30))
      have O1 := Lib.hid (O.out.quiet F T1.out)
      clear hbx
      go_wp2_with fail
      refine (MK.out _).mono ?_
      rintro e w3 ⟨rfl, rfl⟩
      generalize wr.alloc (.cells #[.int .i64 kd, .int .i64 tt, .int .i64 uu, .string sq, .string sb] 30) = wc at *
      generalize wr.heap.size = qo at *
      clear d0 d1 d2 d3 d4 hok1 ea ba hb hi80 O MK hi25
      go_wp2_with fail
      clear eb bb hok2
      obtain ⟨A, R, hQs, hA, hR⟩ := split_id S x (O1.out.so.ris F).1
      have HQS := Lib.hid hQs
      have HA := Lib.hid hA
      have HR := Lib.hid hR
      obtain ⟨K, hK⟩ : ∃ K, K = A.length := ⟨_, rfl⟩
      have HK := Lib.hid hK
      have hKm : K ≤ m := by rw [hK, HM.out, hQs, List.length_append]; omega
      have LO : Hid (∀ kk : Nat, kk < K → ∃ g z, aw = some ⟨g, 0, none⟩ ∧ wc.cell? ⟨g, kk * 3, none⟩ = some (.int .i64 z) ∧ z < x) := Lib.hid (fun kk hkk => by
        obtain ⟨g, hg⟩ := row_addr O1.out.row (by have := HM.out; omega)
        obtain ⟨q, hq⟩ : ∃ q, A[kk]? = some q := ⟨_, List.getElem?_eq_getElem (by omega)⟩
        have hq2 : S[kk]? = some q := by rw [HQS.out, List.getElem?_append_left (by omega)]; exact hq
        have o := O1.out
        rw [hg] at o
        exact ⟨g, q.id, hg, (o.cells hq2).1, HA.out _ (List.mem_of_getElem? hq)⟩)
      have HI : Hid ((m = K ∧ (∀ r ∈ R, x < r.id)) ∨ ∃ g z, aw = some ⟨g, 0, none⟩ ∧ K < m ∧ wc.cell? ⟨g, K * 3, none⟩ = some (.int .i64 z) ∧ ((x < z ∧ (∀ r ∈ R, x < r.id)) ∨ (z = x ∧ ∃ q B, R = q :: B ∧ q.id = x))) := Lib.hid (by
        cases hRc : R with
        | nil => exact .inl ⟨by rw [HM.out, HQS.out, hRc, HK.out]; simp, by simp⟩
        | cons q B =>
          refine .inr ?_
          have hKl : K < m := by rw [HM.out, HQS.out, hRc, HK.out]; simp
          obtain ⟨g, hg⟩ := row_addr O1.out.row (by have := HM.out; omega)
          have hq2 : S[K]? = some q := by rw [HQS.out, List.getElem?_append_right (by omega), hRc, show K - A.length = 0 by omega]; rfl
          have o := O1.out
          rw [hg] at o
          refine ⟨g, q.id, hg, hKl, (o.cells hq2).1, ?_⟩
          have h0 := HR.out q (by rw [hRc]; simp)
          have hri := (O1.out.so.ris F).1
          rw [HQS.out, hRc] at hri
          rcases Int.lt_or_eq_of_le h0 with h1 | h1
          · refine .inl ⟨h1, fun r hr => ?_⟩
            rcases List.mem_cons.1 hr with rfl | hr
            · exact h1
            · have := (pair_mid hri).2.2 r hr; omega
          · exact .inr ⟨h1.symm, q, B, rfl, h1.symm⟩)
      have HMD2 := Lib.hid O1
      clear hQs hA hR hK HMD2
      go_loopw [13] (fun v13 wx => ∃ kk : Nat, kk ≤ K ∧ v13 = .int .i64 (kk : Int) ∧ wx = wc) (fun v13 _ => K - (intOf v13).toNat)
      case atStart => exact ⟨0, by omega, rfl, by trivial⟩
      case round => as_aux_lemma =>
        obtain ⟨kk, hkk, rfl, hwy⟩ := hrel
        subst hwy
        have HKK := Lib.hid hkk
        clear hkk
        go_upto_region 15 with fail
        go_cut [73] from 61 to 73 (fun v73 wx => v73 = .bool (decide (kk < K)) ∧ wx = wr)
        case first => as_aux_lemma =>
          by_cases hkK : kk < K
          · obtain ⟨g, z, haw, cz, hzx⟩ := LO.out kk hkK
            subst haw
            have HD := Lib.hid (decide_eq_true hkK)
            have hb : 0 ≤ (kk : Int) ∧ (kk : Int) < (m : Int) := by omega
            clear hkK
            go_wp2_with fail
            go_meet
            exact ⟨by rw [HD.out], by trivial⟩
          · have hkk2 : kk = K := by have := HKK.out; omega
            have HD := Lib.hid (decide_eq_false hkK)
            subst hkk2
            rcases HI.out with ⟨hmK, -⟩ | ⟨g, z, haw, hKm2, cz, hz⟩
            · have hlt : ¬ (kk : Int) < (m : Int) := by omega
              clear hkK hmK
              go_wp2_with fail
              go_meet
              exact ⟨by rw [HD.out], by trivial⟩
            · subst haw
              have hlt : ¬ z < x := by rcases hz with ⟨h1, -⟩ | ⟨h1, -⟩ <;> omega
              have hb : 0 ≤ (kk : Int) ∧ (kk : Int) < (m : Int) := by omega
              clear hkK
              go_wp2_with fail
              go_meet
              exact ⟨by rw [HD.out], by trivial⟩
        case rest => as_aux_lemma =>
          obtain ⟨rfl, hwc2⟩ := hcut
          subst hwc2
          by_cases hkK : kk < K
          · have hd : decide (kk < K) = true := decide_eq_true hkK
            rw [hd]
            have hkm : (kk : Int) < 20 := by omega
            have HKL := Lib.hid hkK
            clear hkK hd
            go_wp2_with fail
            go_roundw
            case rel => exact ⟨kk + 1, HKL.out, by go_num, by trivial⟩
            case measure => have := HKL.out; simp [intOf]; omega
          · have hd : decide (kk < K) = false := decide_eq_false hkK
            rw [hd]
            have hkk2 : kk = K := by have := HKK.out; omega
            subst hkk2
            clear hkK hd HKK LO
            obtain ⟨inB, hin⟩ : ∃ i : Bool, (i = true ∧ ∃ q B, R = q :: B ∧ q.id = x) ∨ (i = false ∧ ∀ r ∈ R, x < r.id) := by
              rcases HI.out with ⟨-, h1⟩ | ⟨g, z, -, -, -, ⟨-, h1⟩ | ⟨-, h1⟩⟩
              · exact ⟨false, .inr ⟨rfl, h1⟩⟩
              · exact ⟨false, .inr ⟨rfl, h1⟩⟩
              · exact ⟨true, .inl ⟨rfl, h1⟩⟩
            have HIN := Lib.hid hin
            clear hin
            go_upto_region 17 with fail
            go_cut [14] from 76 to 88 (fun v14 wx => v14 = .bool inB ∧ wx = wc)
            case first => as_aux_lemma =>
              rcases HI.out with ⟨hmK, h1⟩ | ⟨g, z, haw, hKm2, cz, hz⟩
              · have hlt : ¬ (kk : Int) < (m : Int) := by omega
                have HB0 : Hid (inB = false) := Lib.hid (by
                  rcases HIN.out with ⟨-, q, B, e, e2⟩ | ⟨h2, -⟩
                  · have := h1 q (by rw [e]; simp); omega
                  · exact h2)
                clear h1 hmK
                go_wp2_with fail
                go_meet
                exact ⟨by rw [HB0.out], by trivial⟩
              · subst haw
                have hb : 0 ≤ (kk : Int) ∧ (kk : Int) < (m : Int) := by omega
                rcases hz with ⟨hz1, h1⟩ | ⟨hz1, hq⟩
                · have hne : (z == x) = false := by simp; omega
                  have HB0 : Hid (inB = false) := Lib.hid (by
                    rcases HIN.out with ⟨-, q, B, e, e2⟩ | ⟨h2, -⟩
                    · have := h1 q (by rw [e]; simp); omega
                    · exact h2)
                  clear h1 hz1
                  go_wp2_with fail
                  go_meet
                  exact ⟨by rw [HB0.out], by trivial⟩
                · have hne : (z == x) = true := by simpa using hz1
                  have HB0 : Hid (inB = true) := Lib.hid (by
                    rcases HIN.out with ⟨h2, -⟩ | ⟨-, h2⟩
                    · exact h2
                    · obtain ⟨q, B, e, e2⟩ := hq
                      have := h2 q (by rw [e]; simp); omega)
                  clear hz1 hq
                  go_wp2_with fail
                  go_meet
                  exact ⟨by rw [HB0.out], by trivial⟩
            case rest => as_aux_lemma =>
              obtain ⟨rfl, hwc3⟩ := hcut
              subst hwc3
              clear HI
              go_wp2_with fail
              go_loopw [15, 16] (fun v15 v16 wx => ∃ j : Nat, j ≤ m ∧ v16 = .int .i64 (j : Int) ∧ v15 = .bool ((S.take j).any (hsB x t)) ∧ wx = wc) (fun _ v16 _ => m - (intOf v16).toNat)
              case atStart => exact ⟨0, by omega, rfl, rfl, by trivial⟩
              case round => as_aux_lemma =>
                obtain ⟨j, hj, rfl, rfl, hwy⟩ := hrel
                subst hwy
                by_cases hjm : (j : Int) < (m : Int)
                · obtain ⟨q, hq⟩ : ∃ q, S[j]? = some q := ⟨_, List.getElem?_eq_getElem (by have := HM.out; omega)⟩
                  obtain ⟨g, hg⟩ := row_addr O1.out.row (by have := HM.out; omega)
                  subst hg
                  obtain ⟨q0, q1, -, -⟩ := O1.out.cells hq
                  have HNX : Hid ((S.take (j + 1)).any (hsB x t) = ((S.take j).any (hsB x t) || hsB x t q)) := Lib.hid (by
                    rw [List.take_add_one, hq, List.any_append]
                    simp)
                  obtain ⟨b0, hb0⟩ : ∃ z, z = (S.take j).any (hsB x t) := ⟨_, rfl⟩
                  rw [← hb0] at HNX ⊢
                  obtain ⟨z, hz⟩ : ∃ z, z = q.tid := ⟨_, rfl⟩
                  obtain ⟨y, hy⟩ : ∃ z, z = q.id := ⟨_, rfl⟩
                  rw [← hz] at q1
                  rw [← hy] at q0
                  have HH : Hid (hsB x t q = (decide (t ≠ 0) && (decide (z = t) && decide (y ≠ x)))) := Lib.hid (by rw [hz, hy]; rfl)
                  have hb : 0 ≤ (j : Int) ∧ (j : Int) < (m : Int) := by omega
                  have HJM := Lib.hid hjm
                  clear hq hb0 hz hy hj
                  go_upto_region 22 with fail
                  by_cases h1 : b0 = true
                  · subst h1
                    have HR1 : Hid ((S.take (j + 1)).any (hsB x t) = true) := Lib.hid (by rw [HNX.out]; rfl)
                    clear HNX HH
                    go_wp2_with fail
                    go_roundw
                    case rel => exact ⟨j + 1, by have := HJM.out; omega, by go_num, by rw [HR1.out], by trivial⟩
                    case measure => have := HJM.out; simp [intOf]; omega
                  have h1' : b0 = false := by simpa using h1
                  subst h1'
                  clear h1
                  by_cases h2 : t = 0
                  · have hb2 : (t != 0) = false := by simp [h2]
                    have HR1 : Hid ((S.take (j + 1)).any (hsB x t) = false) := Lib.hid (by rw [HNX.out, HH.out]; simp [h2])
                    clear HNX HH h2
                    go_wp2_with fail
                    go_roundw
                    case rel => exact ⟨j + 1, by have := HJM.out; omega, by go_num, by rw [HR1.out], by trivial⟩
                    case measure => have := HJM.out; simp [intOf]; omega
                  have hb2 : (t != 0) = true := by simpa using h2
                  by_cases h3 : z = t
                  · have hb3 : (z == t) = true := by simp [h3]
                    by_cases h4 : y = x
                    · have hb4 : (y != x) = false := by simp [h4]
                      have HR1 : Hid ((S.take (j + 1)).any (hsB x t) = false) := Lib.hid (by rw [HNX.out, HH.out]; simp [h4])
                      clear HNX HH h2 h3 h4
                      go_wp2_with fail
                      go_roundw
                      case rel => exact ⟨j + 1, by have := HJM.out; omega, by go_num, by rw [HR1.out], by trivial⟩
                      case measure => have := HJM.out; simp [intOf]; omega
                    · have hb4 : (y != x) = true := by simpa using h4
                      have HR1 : Hid ((S.take (j + 1)).any (hsB x t) = true) := Lib.hid (by rw [HNX.out, HH.out]; simp [h2, h3, h4])
                      clear HNX HH h2 h3 h4
                      go_wp2_with fail
                      go_roundw
                      case rel => exact ⟨j + 1, by have := HJM.out; omega, by go_num, by rw [HR1.out], by trivial⟩
                      case measure => have := HJM.out; simp [intOf]; omega
                  · have hb3 : (z == t) = false := by simpa using h3
                    have HR1 : Hid ((S.take (j + 1)).any (hsB x t) = false) := Lib.hid (by rw [HNX.out, HH.out]; simp [h3])
                    clear HNX HH h2 h3
                    go_wp2_with fail
                    go_roundw
                    case rel => exact ⟨j + 1, by have := HJM.out; omega, by go_num, by rw [HR1.out], by trivial⟩
                    case measure => have := HJM.out; simp [intOf]; omega
                · have hjj : j = m := by omega
                  have hful : S.take j = S := List.take_of_length_le (by have := HM.out; omega)
                  obtain ⟨hs, hhs⟩ : ∃ z, z = S.any (hsB x t) := ⟨_, rfl⟩
                  rw [hful, ← hhs]
                  have HHS := Lib.hid hhs
                  obtain ⟨ji, hji⟩ : ∃ i : Int, i = (j : Int) := ⟨_, rfl⟩
                  rw [← hji] at ⊢
                  have hj4 : ¬ ji < (m : Int) := by rw [hji]; exact hjm
                  clear hful hhs hjj hjm hji hj
                  have hk80 : (k : Int) < 80 := by have := HK2.out; omega
                  have hbm : 0 ≤ (kk : Int) := by omega
                  have hmd80 : (made : Int) ≤ 80 := by have := HMD.out; omega
                  by_cases h0 : kd = 0
                  · subst h0
                    by_cases hfull : S.length < 20
                    · have hsl : S.length ≤ 20 := by omega
                      have C := Lib.hid (O1.out.call (br' := br) (made' := made + 1) (tk' := ticks) (ns' := ns + 1) (S' := S ++ [⟨makeZ br ((made : Int) + 1), 0, ticks⟩]) (f := 28) (args := #[.pointer (some ⟨b, 0, none⟩)]) (R := fun e _ => e = .returned (.tuple #[.int .i64 (makeZ br ((made : Int) + 1)), .bool true])) (fun os h => by
                        refine (F.open_ok h hfull (by have := HMD.out; have := HK2.out; omega) (by have := HNS.out; have := HK2.out; omega)).mono ?_
                        rintro e w' ⟨os', rfl, h2, s2⟩
                        exact ⟨os', rfl, h2, s2⟩))
                      have MK2 := Lib.hid (fun z => refMake_calls br ((made : Int) + 1) z)
                      obtain ⟨z, hz⟩ : ∃ z, z = makeZ br ((made : Int) + 1) := ⟨_, rfl⟩
                      rw [← hz] at C MK2
                      have hlt : (m : Int) < 20 := by have := HM.out; omega
                      have hw : IntKind.i64.wrap ((made : Int) + 1) = (made : Int) + 1 := by rw [IntKind.wrap_i64]; omega
                      have HFU := Lib.hid hfull
                      obtain ⟨j0, hj0, hz0, hz1, hz2⟩ := info_parts Tryz.sesrow
                      clear hz hfull
                      go_wp2_with fail
                      refine C.out.mono ?_
                      rintro e w4 ⟨rfl, h4, -⟩
                      have O4 := Lib.hid h4
                      clear h4 C O1 e0 e1 e2 e3 e4
                      go_wp2_with fail
                      refine (MK2.out _).mono ?_
                      rintro e w5 ⟨rfl, rfl⟩
                      have hq0 := heap_alloc_new w4 (.cells #[.int .i64 z, .int .i64 0, .int .i64 0] 52)
                      have T5 := Lib.hid (Turn.alloc [] w4 (.cells #[.int .i64 z, .int .i64 0, .int .i64 0] 52))
                      have O5 := Lib.hid (O4.out.quiet F T5.out)
                      have SRC := Lib.hid (src_three hq0)
                      clear hq0 O4
                      go_wp2_with (at_builtin; refine append_srcO Tryz.underlying49 hj0 hz0 hz1 hz2 rfl (by decide) rfl (.tmp 181) (.tmp 184) rfl 0 (.slice aw m cw) S.length (S.flatMap (sc ticks)) rfl O5.out.row (Nat.zero_le _) _ 1 1 [.int .i64 z, .int .i64 0, .int .i64 0] rfl SRC.out (by intro u hu; simp at hu; rcases hu with rfl | rfl | rfl <;> rfl) (by omega) (by omega) ?_; intro v6 w6 r6 g6 o6)
                      have O6 := Lib.hid (O5.out.grow F (L' := S ++ [⟨z, 0, ticks⟩]) g6 o6 (by
                        have e1 : (S ++ [(⟨z, 0, ticks⟩ : Sq)]).length = S.length + 1 := by simp
                        have e2 : (S ++ [(⟨z, 0, ticks⟩ : Sq)]).flatMap (sc ticks) = S.flatMap (sc ticks) ++ [.int .i64 z, .int .i64 0, .int .i64 0] := by simp [sc]
                        rw [e1, e2]
                        exact r6))
                      have TKN : Hid (Tk (S ++ [(⟨z, 0, ticks⟩ : Sq)])) := Lib.hid ⟨by have := HFU.out; simp; omega, fun q hq => by
                        rcases List.mem_append.1 hq with hq | hq
                        · exact HT.out.2 q hq
                        · rw [List.mem_singleton.1 hq]
                          exact ⟨Int.le_refl 0, by show (0 : Int) ≤ 3; omega⟩⟩
                      clear r6 g6 o6 O5 SRC
                      go_wp2_with fail
                      go_roundw
                      case rel => exact ⟨k + 1, made + 1, ns + 1, ticks, _, HK1.out, HK2.out, by have := HMD.out; omega, by have := HNS.out; omega, by have := HTK.out; omega, by go_num, by go_num, TKN.out, O6.out⟩
                      case measure => have := HK2.out; simp [intOf]; omega
                    · have hsl : S.length = 20 := by have := HT.out.1; omega
                      have C := Lib.hid (O1.out.call (br' := br) (made' := made) (tk' := ticks) (ns' := ns + 1) (S' := S) (f := 28) (args := #[.pointer (some ⟨b, 0, none⟩)]) (R := fun e _ => e = .returned (.tuple #[.int .i64 0, .bool false])) (fun os h => by
                        refine (F.open_full h (by omega) (by have := HMD.out; have := HK2.out; omega) (by have := HNS.out; have := HK2.out; omega)).mono ?_
                        rintro e w' ⟨os', rfl, h2, s2⟩
                        exact ⟨os', rfl, h2, s2⟩))
                      have hlt : ¬ (m : Int) < 20 := by have := HM.out; omega
                      clear hfull hsl
                      go_wp2_with fail
                      refine C.out.mono ?_
                      rintro e w4 ⟨rfl, h4, -⟩
                      have O4 := Lib.hid h4
                      clear h4 C O1 e0 e1 e2 e3 e4
                      go_wp2_with fail
                      go_roundw
                      case rel => exact ⟨k + 1, made, ns + 1, ticks, _, HK1.out, HK2.out, by have := HMD.out; omega, by have := HNS.out; omega, by have := HTK.out; omega, by go_num, by go_num, HT.out, O4.out⟩
                      case measure => have := HK2.out; simp [intOf]; omega
                  have b0 : (kd == 0) = false := by simpa using h0
                  by_cases h1 : kd = 1
                  · subst h1
                    cases inB with
                    | false =>
                      have hB : ∀ r ∈ R, x < r.id := by
                        rcases HIN.out with ⟨h, -⟩ | ⟨-, h⟩
                        · cases h
                        · exact h
                      have hno : ∀ q ∈ S, q.id ≠ x := fun q hq => by
                        rw [HQS.out] at hq
                        rcases List.mem_append.1 hq with hq | hq
                        · have := HA.out q hq; omega
                        · have := hB q hq; omega
                      have C := Lib.hid (O1.out.call (br' := br) (made' := made) (tk' := ticks) (ns' := ns + 1) (S' := S) (f := 29) (args := #[.pointer (some ⟨b, 0, none⟩), .int .i64 x]) (R := fun e _ => e = .returned (.bool false)) (fun os h => by
                        refine (F.touch_none h (by have := HNS.out; have := HK2.out; omega) HX64.out hno).mono ?_
                        rintro e w' ⟨os', rfl, h2, s2⟩
                        exact ⟨os', rfl, h2, s2⟩))
                      clear hB hno
                      go_wp2_with fail
                      refine C.out.mono ?_
                      rintro e w4 ⟨rfl, h4, -⟩
                      have O4 := Lib.hid h4
                      clear h4 C O1 e0 e1 e2 e3 e4
                      go_wp2_with fail
                      go_roundw
                      case rel => exact ⟨k + 1, made, ns + 1, ticks, _, HK1.out, HK2.out, by have := HMD.out; omega, by have := HNS.out; omega, by have := HTK.out; omega, by go_num, by go_num, HT.out, O4.out⟩
                      case measure => have := HK2.out; simp [intOf]; omega
                    | true =>
                      obtain ⟨q, B, hRq, hqx⟩ : ∃ q B, R = q :: B ∧ q.id = x := by
                        rcases HIN.out with ⟨-, h⟩ | ⟨h, -⟩
                        · exact h
                        · cases h
                      have HQ3 : Hid (S = A ++ q :: B) := Lib.hid (by rw [HQS.out, hRq])
                      have HQX := Lib.hid hqx
                      obtain ⟨g, hg⟩ := row_addr O1.out.row (by rw [HQ3.out]; simp; omega)
                      subst hg
                      have hb : 0 ≤ (kk : Int) ∧ (kk : Int) < (m : Int) := by
                        have h1 := HM.out
                        have h2 := HK.out
                        rw [HQ3.out] at h1
                        simp at h1
                        omega
                      have HSK : Hid (S[kk]? = some q) := Lib.hid (by rw [HQ3.out, HK.out]; simp)
                      clear hRq hqx
                      have C := Lib.hid (O1.out.call (br' := br) (made' := made) (tk' := ticks) (ns' := ns + 1) (S' := A ++ ⟨q.id, q.tid, ticks⟩ :: B) (f := 29) (args := #[.pointer (some ⟨b, 0, none⟩), .int .i64 x]) (R := fun e _ => e = .returned (.bool true)) (fun os h => by
                        rw [HQ3.out] at h
                        rw [← HQX.out]
                        refine (F.touch_is h (by have := HNS.out; have := HK2.out; omega)).mono ?_
                        rintro e w' ⟨os', rfl, h2, s2⟩
                        exact ⟨os', rfl, h2, s2⟩))
                      go_wp2_with fail
                      refine C.out.mono ?_
                      rintro e w4 ⟨rfl, h4, -⟩
                      obtain ⟨-, -, c2, fr⟩ := h4.cells HSK.out
                      have hs4 : Aw Ses w w4 [] (.slice (some ⟨g, 0, none⟩) m cw) b br made ticks (ns + 1) (A ++ ⟨q.id, q.tid, ticks⟩ :: B) ticks (A ++ q :: B) := by rw [← HQ3.out]; exact h4
                      have OD := Lib.hid (hs4.set F (q' := ⟨q.id, q.tid, ticks⟩) (k := 2) (u := .int .i64 0) (by omega) (by unfold sc; simp)).1
                      rw [← HK.out] at OD
                      have TKN : Hid (Tk (A ++ (⟨q.id, q.tid, ticks⟩ : Sq) :: B)) := Lib.hid (by
                        have h1 := HT.out
                        rw [HQ3.out] at h1
                        refine ⟨by have := h1.1; simp at this ⊢; omega, fun r hr => ?_⟩
                        rcases mem_mid' hr with rfl | hr
                        · exact h1.2 q (by simp)
                        · exact h1.2 r (mem_mid hr))
                      clear h4 hs4 C O1 e0 e1 e2 e3 e4
                      go_wp2_with fail
                      go_roundw
                      case rel => exact ⟨k + 1, made, ns + 1, ticks, _, HK1.out, HK2.out, by have := HMD.out; omega, by have := HNS.out; omega, by have := HTK.out; omega, by go_num, by go_num, TKN.out, OD.out⟩
                      case measure => have := HK2.out; simp [intOf]; omega
                  have b1 : (kd == 1) = false := by simpa using h1
                  by_cases h2 : kd = 2
                  · subst h2
                    cases inB with
                    | false =>
                      have hB : ∀ r ∈ R, x < r.id := by
                        rcases HIN.out with ⟨h, -⟩ | ⟨-, h⟩
                        · cases h
                        · exact h
                      have hno : ∀ q ∈ S, q.id ≠ x := fun q hq => by
                        rw [HQS.out] at hq
                        rcases List.mem_append.1 hq with hq | hq
                        · have := HA.out q hq; omega
                        · have := hB q hq; omega
                      have C := Lib.hid (O1.out.call (br' := br) (made' := made) (tk' := ticks) (ns' := ns + 1) (S' := S) (f := 30) (args := #[.pointer (some ⟨b, 0, none⟩), .int .i64 x, .int .i64 t]) (R := fun e _ => e = .returned (.bool false)) (fun os h => by
                        refine (F.bind_other h (by have := HNS.out; have := HK2.out; omega) HX64.out (by have := HTT.out; unfold inI64; omega) (.inl hno)).mono ?_
                        rintro e w' ⟨os', rfl, h2, s2⟩
                        exact ⟨os', rfl, h2, s2⟩))
                      clear hB hno
                      go_wp2_with fail
                      refine C.out.mono ?_
                      rintro e w4 ⟨rfl, h4, -⟩
                      have O4 := Lib.hid h4
                      clear h4 C O1 e0 e1 e2 e3 e4
                      go_wp2_with fail
                      go_roundw
                      case rel => exact ⟨k + 1, made, ns + 1, ticks, _, HK1.out, HK2.out, by have := HMD.out; omega, by have := HNS.out; omega, by have := HTK.out; omega, by go_num, by go_num, HT.out, O4.out⟩
                      case measure => have := HK2.out; simp [intOf]; omega
                    | true =>
                      cases hs with
                      | true =>
                        have hno : t ≠ 0 ∧ ∃ q ∈ S, q.tid = t ∧ q.id ≠ x := hs_true HHS.out.symm
                        have C := Lib.hid (O1.out.call (br' := br) (made' := made) (tk' := ticks) (ns' := ns + 1) (S' := S) (f := 30) (args := #[.pointer (some ⟨b, 0, none⟩), .int .i64 x, .int .i64 t]) (R := fun e _ => e = .returned (.bool false)) (fun os h => by
                          refine (F.bind_other h (by have := HNS.out; have := HK2.out; omega) HX64.out (by have := HTT.out; unfold inI64; omega) (.inr hno)).mono ?_
                          rintro e w' ⟨os', rfl, h2, s2⟩
                          exact ⟨os', rfl, h2, s2⟩))
                        clear hno
                        go_wp2_with fail
                        refine C.out.mono ?_
                        rintro e w4 ⟨rfl, h4, -⟩
                        have O4 := Lib.hid h4
                        clear h4 C O1 e0 e1 e2 e3 e4
                        go_wp2_with fail
                        go_roundw
                        case rel => exact ⟨k + 1, made, ns + 1, ticks, _, HK1.out, HK2.out, by have := HMD.out; omega, by have := HNS.out; omega, by have := HTK.out; omega, by go_num, by go_num, HT.out, O4.out⟩
                        case measure => have := HK2.out; simp [intOf]; omega
                      | false =>
                        obtain ⟨q, B, hRq, hqx⟩ : ∃ q B, R = q :: B ∧ q.id = x := by
                          rcases HIN.out with ⟨-, h⟩ | ⟨h, -⟩
                          · exact h
                          · cases h
                        have HQ3 : Hid (S = A ++ q :: B) := Lib.hid (by rw [HQS.out, hRq])
                        have HQX := Lib.hid hqx
                        obtain ⟨g, hg⟩ := row_addr O1.out.row (by rw [HQ3.out]; simp; omega)
                        subst hg
                        have hb : 0 ≤ (kk : Int) ∧ (kk : Int) < (m : Int) := by
                          have h1 := HM.out
                          have h2 := HK.out
                          rw [HQ3.out] at h1
                          simp at h1
                          omega
                        have HSK : Hid (S[kk]? = some q) := Lib.hid (by rw [HQ3.out, HK.out]; simp)
                        clear hRq hqx
                        have hfree : t = 0 ∨ ∀ r ∈ A ++ B, r.tid ≠ t := by
                          rcases hs_false HHS.out.symm with h | h
                          · exact .inl h
                          · refine .inr (fun r hr => h r (by rw [HQ3.out]; exact mem_mid hr) ?_)
                            have hri := (O1.out.so.ris F).1
                            rw [HQ3.out] at hri
                            obtain ⟨-, h1, h2⟩ := pair_mid hri
                            rw [← HQX.out]
                            rcases List.mem_append.1 hr with hr | hr
                            · have := h1 r hr; omega
                            · have := h2 r hr; omega
                        have C := Lib.hid (O1.out.call (br' := br) (made' := made) (tk' := ticks) (ns' := ns + 1) (S' := A ++ ⟨q.id, t, ticks⟩ :: B) (f := 30) (args := #[.pointer (some ⟨b, 0, none⟩), .int .i64 x, .int .i64 t]) (R := fun e _ => e = .returned (.bool true)) (fun os h => by
                          rw [HQ3.out] at h
                          rw [← HQX.out]
                          refine (F.bind_is h (by have := HNS.out; have := HK2.out; omega) (by have := HTT.out; unfold inI64; omega) hfree).mono ?_
                          rintro e w' ⟨os', rfl, h2, s2⟩
                          exact ⟨os', rfl, h2, s2⟩))
                        clear hfree
                        go_wp2_with fail
                        refine C.out.mono ?_
                        rintro e w4 ⟨rfl, h4, -⟩
                        obtain ⟨-, c1, c2, fr⟩ := h4.cells HSK.out
                        have hs4 : Aw Ses w w4 [] (.slice (some ⟨g, 0, none⟩) m cw) b br made ticks (ns + 1) (A ++ ⟨q.id, t, ticks⟩ :: B) ticks (A ++ q :: B) := by rw [← HQ3.out]; exact h4
                        have hs5 := (hs4.set F (q' := ⟨q.id, t, q.heard⟩) (k := 1) (u := .int .i64 t) (by omega) (by unfold sc; simp)).1
                        have OD := Lib.hid (hs5.set F (q' := ⟨q.id, t, ticks⟩) (k := 2) (u := .int .i64 0) (by omega) (by unfold sc; simp)).1
                        rw [← HK.out] at OD
                        have TKN : Hid (Tk (A ++ (⟨q.id, t, ticks⟩ : Sq) :: B)) := Lib.hid (by
                          have h1 := HT.out
                          rw [HQ3.out] at h1
                          refine ⟨by have := h1.1; simp at this ⊢; omega, fun r hr => ?_⟩
                          rcases mem_mid' hr with rfl | hr
                          · exact HTT.out
                          · exact h1.2 r (mem_mid hr))
                        clear h4 hs4 hs5 C O1 e0 e1 e2 e3 e4
                        go_wp2_with fail
                        go_roundw
                        case rel => exact ⟨k + 1, made, ns + 1, ticks, _, HK1.out, HK2.out, by have := HMD.out; omega, by have := HNS.out; omega, by have := HTK.out; omega, by go_num, by go_num, TKN.out, OD.out⟩
                        case measure => have := HK2.out; simp [intOf]; omega
                  have b2 : (kd == 2) = false := by simpa using h2
                  by_cases h3 : kd = 3
                  · subst h3
                    cases inB with
                    | false =>
                      have hB : ∀ r ∈ R, x < r.id := by
                        rcases HIN.out with ⟨h, -⟩ | ⟨-, h⟩
                        · cases h
                        · exact h
                      have hno : ∀ q ∈ S, q.id ≠ x := fun q hq => by
                        rw [HQS.out] at hq
                        rcases List.mem_append.1 hq with hq | hq
                        · have := HA.out q hq; omega
                        · have := hB q hq; omega
                      have C := Lib.hid (O1.out.call (br' := br) (made' := made) (tk' := ticks) (ns' := ns + 1) (S' := S) (f := 31) (args := #[.pointer (some ⟨b, 0, none⟩), .int .i64 x]) (R := fun e _ => e = .returned (.tuple #[.int .i64 0, .bool false])) (fun os h => by
                        refine (F.close_none h (by have := HNS.out; have := HK2.out; omega) HX64.out hno).mono ?_
                        rintro e w' ⟨os', rfl, h2, s2⟩
                        exact ⟨os', rfl, h2, s2⟩))
                      clear hB hno
                      go_wp2_with fail
                      refine C.out.mono ?_
                      rintro e w4 ⟨rfl, h4, -⟩
                      have O4 := Lib.hid h4
                      clear h4 C O1 e0 e1 e2 e3 e4
                      go_wp2_with fail
                      go_roundw
                      case rel => exact ⟨k + 1, made, ns + 1, ticks, _, HK1.out, HK2.out, by have := HMD.out; omega, by have := HNS.out; omega, by have := HTK.out; omega, by go_num, by go_num, HT.out, O4.out⟩
                      case measure => have := HK2.out; simp [intOf]; omega
                    | true =>
                      obtain ⟨q, B, hRq, hqx⟩ : ∃ q B, R = q :: B ∧ q.id = x := by
                        rcases HIN.out with ⟨-, h⟩ | ⟨h, -⟩
                        · exact h
                        · cases h
                      have HQ3 : Hid (S = A ++ q :: B) := Lib.hid (by rw [HQS.out, hRq])
                      have HQX := Lib.hid hqx
                      obtain ⟨g, hg⟩ := row_addr O1.out.row (by rw [HQ3.out]; simp; omega)
                      subst hg
                      have hb : 0 ≤ (kk : Int) ∧ (kk : Int) < (m : Int) := by
                        have h1 := HM.out
                        have h2 := HK.out
                        rw [HQ3.out] at h1
                        simp at h1
                        omega
                      have HSK : Hid (S[kk]? = some q) := Lib.hid (by rw [HQ3.out, HK.out]; simp)
                      clear hRq hqx
                      have C := Lib.hid (O1.out.call (br' := br) (made' := made) (tk' := ticks) (ns' := ns + 1) (S' := A ++ B) (f := 31) (args := #[.pointer (some ⟨b, 0, none⟩), .int .i64 x]) (R := fun e _ => e = .returned (.tuple #[.int .i64 q.tid, .bool true])) (fun os h => by
                        rw [HQ3.out] at h
                        rw [← HQX.out]
                        refine (F.close_is h (by have := HNS.out; have := HK2.out; omega)).mono ?_
                        rintro e w' ⟨os', rfl, h2, s2⟩
                        exact ⟨os', rfl, h2, s2⟩))
                      obtain ⟨z, hz⟩ : ∃ z, z = q.tid := ⟨_, rfl⟩
                      have HZ := Lib.hid hz
                      rw [← hz] at C
                      clear hz
                      go_wp2_with fail
                      refine C.out.mono ?_
                      rintro e wd ⟨rfl, h4, -⟩
                      obtain ⟨-, c1, -, -⟩ := h4.cells HSK.out
                      rw [← HZ.out] at c1
                      have O4 := Lib.hid h4
                      have hmc := (row_cap h4.row).2.1
                      have hs4 : Aw Ses w wd [] (.slice (some ⟨g, 0, none⟩) m cw) b br made ticks (ns + 1) (A ++ B) ticks (A ++ q :: B) := by rw [← HQ3.out]; exact h4
                      have HF : Hid (Src 3 wd (some ⟨g, 0, none⟩) kk cw (A.flatMap (sc ticks))) := Lib.hid (by
                        have := hs4.front
                        rwa [← HK.out] at this)
                      obtain ⟨A2, hA2⟩ : ∃ a2 : Option Addr, a2 = (if cw = kk + 1 then some ⟨g, 0, none⟩ else some ⟨g, (kk + 1) * 3, none⟩) := ⟨_, rfl⟩
                      have HLB : Hid (m - (kk + 1) = B.length) := Lib.hid (by
                        have h1 := HM.out
                        have h2 := HK.out
                        rw [HQ3.out] at h1
                        simp at h1
                        omega)
                      have HB : Hid (Src 3 wd A2 (m - (kk + 1)) (cw - (kk + 1)) (B.flatMap (sc ticks))) := Lib.hid (by
                        rw [hA2, HLB.out]
                        split
                        · next e =>
                          have e3 : B = [] := List.eq_nil_of_length_eq_zero (by have := HLB.out; have := HM.out; omega)
                          rw [e3]
                          exact .inr ⟨_, rfl, rfl, fun j u hj => by simp at hj⟩
                        · rw [show A ++ q :: B = (A ++ [q]) ++ B by simp] at hs4
                          exact hs4.back _ _ (by simp [HK.out]))
                      have hkc : kk ≤ cw ∧ kk + 1 ≤ cw := by have := HM.out; omega
                      have hbn : 0 ≤ (kk : Int) ∧ (kk : Int) ≤ (m : Int) := by omega
                      have hbn2 : 0 ≤ (kk : Int) + 1 ∧ (kk : Int) + 1 ≤ (m : Int) := by omega
                      obtain ⟨j0, hj0, hz0, hz1, hz2⟩ := info_parts Tryz.sesrow
                      have HI0 := Lib.hid (And.intro hj0 (And.intro hz0 (And.intro hz1 hz2)))
                      have hw1 : IntKind.i64.wrap ((kk : Int) + 1) = ((kk + 1 : Nat) : Int) := by rw [IntKind.wrap_i64]; omega
                      replace hA2 := hA2.symm
                      clear h4 hs4 C O1 e0 e1 e2 e3 e4 hj0 hz0 hz1 hz2 hmc
                      go_upto_region 58 with fail
                      clear c1
                      have TD := Lib.hid (Turn.drew [] wd)
                      have hS : True := trivial
                      refine Pq.start [] (fun _ => True) (fun _ => True) (by kernel_rfl) ?_
                      refine Pq.tk 0 (some 256) (v := ?_) hS ?_ ?_
                      rotate_left
                      · (intro y hy; go_simp; try with_reducible rfl)
                      simp only [Act.put, List.setIfInBounds_toArray, List.set_cons_zero, List.set_cons_succ]
                      refine Pq.tk 1 (some 257) (v := ?_) hS ?_ ?_
                      rotate_left
                      · (intro y hy; go_simp; try with_reducible rfl)
                      simp only [Act.put, List.setIfInBounds_toArray, List.set_cons_zero, List.set_cons_succ]
                      refine Pq.tk 2 (some 258) (v := ?_) hS ?_ ?_
                      rotate_left
                      · (intro y hy; go_simp; try with_reducible rfl)
                      simp only [Act.put, List.setIfInBounds_toArray, List.set_cons_zero, List.set_cons_succ]
                      refine Pq.tk 4 (some 260) (v := ?_) hS ?_ ?_
                      rotate_left
                      · (intro y hy; go_simp; try with_reducible rfl)
                      simp only [Act.put, List.setIfInBounds_toArray, List.set_cons_zero, List.set_cons_succ]
                      refine Pq.tk 5 (some 261) (v := ?_) hS ?_ ?_
                      rotate_left
                      · (intro y hy; go_simp; try with_reducible rfl)
                      simp only [Act.put, List.setIfInBounds_toArray, List.set_cons_zero, List.set_cons_succ]
                      refine Pq.tk 6 (some 262) (v := ?_) hS ?_ ?_
                      rotate_left
                      · (intro y hy; go_simp; try with_reducible rfl)
                      simp only [Act.put, List.setIfInBounds_toArray, List.set_cons_zero, List.set_cons_succ]
                      refine Pq.tk 7 (some 263) (v := ?_) hS ?_ ?_
                      rotate_left
                      · (intro y hy; go_simp; try with_reducible rfl)
                      simp only [Act.put, List.setIfInBounds_toArray, List.set_cons_zero, List.set_cons_succ]
                      refine Pq.one (i := 3) (by kernel_rfl) rfl ?_
                      intro K0 hK
                      refine step_append_src Tryz.underlying49 HI0.out.1 HI0.out.2.1 HI0.out.2.2.1 HI0.out.2.2.2 rfl (by decide) rfl (.const (.slice none 0 0)) (.tmp 258) rfl wd.heap.size (.slice none 0 0) 0 [] rfl (World.ownsRow_nil _ _ _ _) TD.out.size _ _ _ _ rfl (HF.out.turn TD.out) (sc_one _ _) (by omega) (by omega) (fun v1 y1 r1 g1 o1 => ?_)
                      rw [Nat.zero_add, List.nil_append] at r1
                      have T1 := Lib.hid (TD.out.trans (Turn.grown (l := []) g1 (fun k hk => by simp [Value.ownBlock] at hk)) (by simp))
                      obtain ⟨p1, k1, hv1⟩ := row_slice r1
                      subst hv1
                      have R1 := Lib.hid r1
                      clear r1 g1 o1
                      refine hK _ _ trivial (.inr id) ?_
                      clear hK K0
                      refine Pq.one (i := 8) (by kernel_rfl) rfl ?_
                      intro K0 hK
                      refine step_append_src Tryz.underlying49 HI0.out.1 HI0.out.2.1 HI0.out.2.2.1 HI0.out.2.2.2 rfl (by decide) rfl (.tmp 259) (.tmp 263) rfl wd.heap.size (.slice p1 kk k1) kk _ rfl R1.out T1.out.size _ _ _ _ rfl (HB.out.turn T1.out) (sc_one _ _) (by omega) (by omega) (fun v2 y2 r2 g2 o2 => ?_)
                      rw [← List.flatMap_append] at r2
                      have T2 := Lib.hid (T1.out.trans (Turn.grown (l := (Value.slice p1 kk k1).ownBlock.toList) g2 (fun q hq => .inl (by simp [hq]))) (fun q hq => .inr (R1.out.lt _ (Option.mem_toList.1 hq)).1))
                      obtain ⟨p2, k2, hv2⟩ := row_slice r2
                      subst hv2
                      have R2 := Lib.hid r2
                      clear r2 g2 o2
                      refine hK _ _ trivial (.inr id) ?_
                      clear hK K0
                      refine Pq.tk 9 (some 7) (v := ?_) hS ?_ ?_
                      rotate_left
                      · (intro y hy; go_simp; try with_reducible rfl)
                      refine Pq.done (by kernel_rfl) ?_ _
                      have hln : kk + (m - (kk + 1)) = (A ++ B).length := by rw [List.length_append, HLB.out, HK.out]
                      have OD := Lib.hid (O4.out.again F (vw' := .slice p2 (kk + (m - (kk + 1))) k2) (L' := A ++ B) T2.out (by rw [← hln]; exact R2.out))
                      have TKN : Hid (Tk (A ++ B)) := Lib.hid (by
                        have h1 := HT.out
                        rw [HQ3.out] at h1
                        exact ⟨by have := h1.1; simp at this ⊢; omega, fun r hr => h1.2 r (mem_mid hr)⟩)
                      have HLT := Lib.hid (HM.out)
                      have hrow : (Value.slice p2 (kk + (m - (kk + 1))) k2) = .slice p2 (A ++ B).length k2 := by rw [hln]
                      clear hln hw1 hrow
                      go_wp2_with fail
                      go_roundw
                      case rel => exact ⟨k + 1, made, ns + 1, ticks, _, HK1.out, HK2.out, by have := HMD.out; omega, by have := HNS.out; omega, by have := HTK.out; omega, by go_num, by go_num, TKN.out, OD.out⟩
                      case measure => have := HK2.out; simp [intOf]; omega
                  have b3 : (kd == 3) = false := by simpa using h3
                  have HRIS := Lib.hid (O1.out.so.ris F).2.2
                  have htk80 : 0 ≤ ticks ∧ ticks ≤ 80 := by have := HTK.out; omega
                  go_wp2_with fail
                  clear e0 e1 e2 e3 e4 b0 b1 b2 b3
                  go_loopw [21, 22, 122] (fun vo _ vj wx => ∃ (j : Nat), j ≤ m ∧ vj = .int .i64 (j : Int) ∧ wx.ownsRow 0 2 1 vo (silS (ticks + 1) (S.take j)).length (i64s (silS (ticks + 1) (S.take j))) ∧ Aw Ses w wx vo.ownBlock.toList (.slice aw m cw) b br made ticks ns S ticks (mids S j)) (fun _ _ vj _ => m - (intOf vj).toNat)
                  case atStart => exact ⟨0, by omega, rfl, World.ownsRow_nil _ _ _ _, O1.out⟩
                  case round => as_aux_lemma =>
                    obtain ⟨j, hj, rfl, hro, hbo⟩ := hrel
                    have RO := Lib.hid hro
                    have OJ := Lib.hid hbo
                    obtain ⟨ac, cc, hvo⟩ := row_slice hro
                    clear hro hbo O1
                    by_cases hjm : (j : Int) < (m : Int)
                    · obtain ⟨q, hq⟩ : ∃ q, S[j]? = some q := ⟨_, List.getElem?_eq_getElem (by have := HM.out; omega)⟩
                      obtain ⟨ms1, ms2⟩ := mids_step hq
                      have hjt : ((S.take j).map olds).length = j := by have := HM.out; simp; omega
                      have ob := OJ.out
                      rw [ms1] at ob
                      obtain ⟨g, hg⟩ := row_addr ob.row (by simp; omega)
                      subst hg
                      obtain ⟨k0, -, k2, fr⟩ := ob.cells (i := j) (q := q) (by rw [← hjt]; simp)
                      have sb := ob.set F (q' := olds q) (k := 2) (u := .int .i64 (ticks - q.heard + 1)) (by omega) (by unfold sc olds; simp; omega)
                      rw [hjt, ← ms2] at sb
                      have hh : 0 ≤ q.heard ∧ q.heard ≤ ticks := HRIS.out q (List.mem_of_getElem? hq)
                      have OX := Lib.hid sb.1
                      have R1 := Lib.hid (ownsRow_turn RO.out sb.2 (fun i hi e => by
                        obtain ⟨c1, h1⟩ := row_block RO.out hi
                        obtain ⟨c2, h2⟩ := row_block ob.row (k := g) rfl
                        exact ty_ne h1 h2 (by decide) (List.mem_singleton.1 e)))
                      have hsc := sil_succ (t := ticks + 1) hq
                      have hsl := sil_len (ticks + 1) (S.take j)
                      rw [List.length_take] at hsl
                      obtain ⟨gt, hgt⟩ : ∃ z, z = q.id := ⟨_, rfl⟩
                      obtain ⟨gh, hgh⟩ : ∃ z, z = q.heard := ⟨_, rfl⟩
                      rw [← hgt, ← hgh] at hsc
                      rw [← hgt] at k0
                      rw [← hgh] at k2 hh OX R1
                      have HSC := Lib.hid hsc
                      have hbj : 0 ≤ (j : Int) ∧ (j : Int) < (m : Int) := by omega
                      have hw2 : IntKind.i64.wrap (ticks - gh + 1) = ticks - gh + 1 := by rw [IntKind.wrap_i64]; omega
                      have hsl2 : (silS (ticks + 1) (S.take j)).length ≤ 20 := by omega
                      obtain ⟨Z, hZ⟩ : ∃ Z, Z = silS (ticks + 1) (S.take j) := ⟨_, rfl⟩
                      rw [← hZ] at RO HSC hsl2 hvo R1
                      have HJM := Lib.hid hjm
                      clear hq ms1 ms2 hjt ob sb hgt hgh hZ hjm hj HRIS hsc hsl OJ RO
                      by_cases h6 : 6 ≤ ticks - gh + 1
                      · have HS6 : Hid (silS (ticks + 1) (S.take (j + 1)) = Z ++ [gt]) := Lib.hid (by rw [HSC.out, if_pos (by omega)])
                        rw [hvo]
                        rw [hvo] at R1 OX
                        clear hvo HSC
                        have TA : Hid (∀ z : World, Turn [] z (z.alloc (.cells #[.int .i64 gt] 2))) := Lib.hid (fun z => Turn.alloc [] z _)
                        have hzl : (i64s Z).length = Z.length := by simp [i64s]
                        go_wp2_with (at_builtin; refine L.append_one rfl (.tmp 139) (.tmp 145) rfl (.slice ac Z.length cc) (i64s Z) rfl (by rw [hzl]; exact ownsRow_turn R1.out (TA.out _) (by simp)) _ gt rfl (cell_one (by simp [World.setCell])) (by omega) ?_; intro v4 w4 r4 g4 o4)
                        have T4 := Lib.hid (((TA.out _).mono (l' := (Value.slice ac Z.length cc).ownBlock.toList) (by simp)).trans (Turn.grown (l := (Value.slice ac Z.length cc).ownBlock.toList) g4 (fun i hi => .inl (by simp [hi]))) (fun i hi => .inl hi))
                        have e5 : i64s Z ++ [Value.int .i64 gt] = i64s (Z ++ [gt]) := by simp [i64s]
                        rw [e5, show (i64s (Z ++ [gt])).length = (Z ++ [gt]).length by simp [i64s]] at r4
                        have O4 := Lib.hid (OX.out.old F R1.out T4.out r4 (fun k hk => by
                          rcases o4 with e | e
                          · exact .inl (by rw [← e]; exact hk)
                          · rw [e] at hk
                            cases hk
                            exact .inr (Turn.alloc [] _ _).size))
                        have R4 := Lib.hid r4
                        clear r4 g4 o4 T4 OX R1
                        go_wp2_with fail
                        go_roundw
                        case rel => exact ⟨j + 1, by have := HJM.out; omega, by go_num, by rw [HS6.out]; exact R4.out, O4.out⟩
                        case measure => have := HJM.out; simp [intOf]; omega
                      · have HS6 : Hid (silS (ticks + 1) (S.take (j + 1)) = Z) := Lib.hid (by rw [HSC.out, if_neg (by omega)])
                        clear HSC hvo
                        go_wp2_with fail
                        go_roundw
                        case rel => exact ⟨j + 1, by have := HJM.out; omega, by go_num, by rw [HS6.out]; exact R1.out, OX.out⟩
                        case measure => have := HJM.out; simp [intOf]; omega
                    · have hjj : j = m := by omega
                      subst hjj
                      have hlt : ¬ ((j : Int) < (j : Int)) := by omega
                      have hfull : S.take j = S := List.take_of_length_le (by have := HM.out; omega)
                      rw [hfull] at RO hvo
                      have hmf : mids S j = S.map olds := by rw [HM.out]; exact mids_full S
                      rw [hmf] at OJ
                      subst hvo
                      have C := Lib.hid (OJ.out.call (br' := br) (made' := made) (tk' := ticks + 1) (ns' := ns + 1) (S' := S) (f := 32) (args := #[.pointer (some ⟨b, 0, none⟩)]) (R := fun e w' => ∃ ao c, e = .returned (.slice ao (silS (ticks + 1) S).length c) ∧ w'.ownsRow 0 2 1 (.slice ao (silS (ticks + 1) S).length c) (silS (ticks + 1) S).length (i64s (silS (ticks + 1) S))) (fun os h => by
                        refine (F.tick h (by omega) (by have := HNS.out; have := HK2.out; omega)).mono ?_
                        rintro e w' ⟨os', ao, c, rfl, hr, h2, s2⟩
                        exact ⟨os', ⟨ao, c, rfl, hr⟩, h2, s2⟩))
                      have HL1 : Hid ((silS (ticks + 1) S).length ≤ 1000000) := Lib.hid (by
                        have h1 := sil_len (ticks + 1) S
                        have := HM.out
                        omega)
                      clear hfull hmf hjm
                      go_wp2_with fail
                      refine C.out.mono ?_
                      rintro e wd ⟨⟨at1, ct1, rfl, hrt⟩, hbo, hoff⟩
                      have E := Lib.hid (eq13_calls (sr_row hrt) (sr_row (hoff.row RO.out (fun i hi => by simp [hi]))) HL1.out)
                      have OD0 := Lib.hid (hbo.less F).young
                      clear hbo hoff hrt C
                      go_wp2_with fail
                      refine E.out.mono ?_
                      rintro e we ⟨rfl, te⟩
                      have OD := Lib.hid (OD0.out.quiet F te)
                      clear te E OD0
                      go_wp2_with fail
                      go_roundw
                      case rel => exact ⟨k + 1, made, ns + 1, ticks + 1, _, HK1.out, HK2.out, by have := HMD.out; omega, by have := HNS.out; omega, by have := HTK.out; omega, by go_num, by go_num, HT.out, OD.out⟩
                      case measure => have := HK2.out; simp [intOf]; omega
    · have HKN := Lib.hid hkn
      clear hkn
      go_upto_region 9 with fail
      go_cut [41] from 34 to 41 (fun v41 wx => v41 = .bool false ∧ wx = wr)
      case first => as_aux_lemma =>
        by_cases hk15 : (k : Int) < (n : Int)
        · have h1 : ¬ (k : Int) < 80 := by have := HKN.out; omega
          clear hk hk8
          go_wp2_with fail
          go_meet
          exact ⟨rfl, by trivial⟩
        · clear hk hk8
          go_wp2_with fail
          go_meet
          exact ⟨rfl, by trivial⟩
      case rest => as_aux_lemma =>
        obtain ⟨rfl, hwc⟩ := hcut
        subst hwc
        have HK8 := Lib.hid hk8
        clear HKN hk hk8
        go_wp2_with fail
        go_loopw [23] (fun vj wx => ∃ (j : Nat), j ≤ m ∧ vj = .int .i64 (j : Int) ∧ Aw Ses w wx [] (.slice aw m cw) b br made ticks ns S ticks S) (fun vj _ => m - (intOf vj).toNat)
        case atStart => exact ⟨0, by omega, rfl, O.out⟩
        case round => as_aux_lemma =>
          obtain ⟨j, hj, rfl, hbo⟩ := hrel
          have OJ := Lib.hid hbo
          clear hbo O
          by_cases hjm : (j : Int) < (m : Int)
          · obtain ⟨q, hq⟩ : ∃ q, S[j]? = some q := ⟨_, List.getElem?_eq_getElem (by have := HM.out; omega)⟩
            obtain ⟨g, hg⟩ := row_addr OJ.out.row (by have := HM.out; omega)
            subst hg
            obtain ⟨q0, q1, -, -⟩ := OJ.out.cells hq
            have FT := Lib.hid (Tw.call (y := wr) (fun x t => (F.tid_is (OJ.out.quiet F t).so.choose_spec.1 (List.mem_of_getElem? hq))))
            have FO := Lib.hid (fun h0 => Tw.call (y := wr) (fun x t => (F.of_is (OJ.out.quiet F t).so.choose_spec.1 (List.mem_of_getElem? hq) h0)))
            obtain ⟨z, hz⟩ : ∃ z, z = q.id := ⟨_, rfl⟩
            obtain ⟨u, hu⟩ : ∃ u, u = q.tid := ⟨_, rfl⟩
            rw [← hz] at q0 FT FO
            rw [← hu] at q1 FT FO
            have hb : 0 ≤ (j : Int) ∧ (j : Int) < (m : Int) := by omega
            have HJM := Lib.hid hjm
            clear hq hz hu hj
            by_cases hu0 : u = 0
            · subst hu0
              clear FO
              go_upto_region 62 with fail
              replace q0 := fun p : Tw wr => p.cell q0
              replace q1 := fun p : Tw wr => p.cell q1
              refine quiet_turn (by kernel_rfl) (by kernel_rfl) ?_
              repeat (go_big_quiet_step (first | (go_at_call 33; exact FT.out _)))
              refine wpQuiet_nil ?_
              rintro wp ⟨⟨_, tp⟩, rfl⟩
              have O6 := Lib.hid (OJ.out.quiet F tp)
              clear tp OJ q0 q1 FT
              go_wp2_with fail
              go_roundw
              case rel => exact ⟨j + 1, by have := HJM.out; omega, by go_num, O6.out⟩
              case measure => have := HJM.out; simp [intOf]; omega
            · have hu1 : (u != 0) = true := by simpa using hu0
              have FO := Lib.hid (FO.out hu0)
              go_upto_region 62 with fail
              replace q0 := fun p : Tw wr => p.cell q0
              replace q1 := fun p : Tw wr => p.cell q1
              refine quiet_turn (by kernel_rfl) (by kernel_rfl) ?_
              repeat (go_big_quiet_step (first | (go_at_call 33; exact FT.out _) | (go_at_call 34; exact FO.out _)))
              refine wpQuiet_nil ?_
              rintro wp ⟨⟨_, tp⟩, rfl⟩
              have O6 := Lib.hid (OJ.out.quiet F tp)
              clear tp OJ q0 q1 FT FO
              go_wp2_with fail
              go_roundw
              case rel => exact ⟨j + 1, by have := HJM.out; omega, by go_num, O6.out⟩
              case measure => have := HJM.out; simp [intOf]; omega
          · have r4 : ¬ (j : Int) < (m : Int) := hjm
            have C1 := Lib.hid (F.of_none (t := 0) OJ.out.so.choose_spec.1 (by unfold inI64; omega) (.inl rfl))
            go_wp2_with fail
            refine C1.out.mono ?_
            rintro e w4 ⟨rfl, t4⟩
            have O4 := Lib.hid (OJ.out.quiet F t4)
            have C2 := Lib.hid (F.of_none (t := 99) O4.out.so.choose_spec.1 (by unfold inI64; omega) (.inr (fun q hq => by have := HT.out.2 q hq; omega)))
            clear t4 OJ C1
            go_wp2_with fail
            refine C2.out.mono ?_
            rintro e w5 ⟨rfl, t5⟩
            have O5 := Lib.hid (O4.out.quiet F t5)
            have C3 := Lib.hid (F.tid_none (x := 0) O5.out.so.choose_spec.1 (by unfold inI64; omega) (fun q hq => by
              obtain ⟨i, i1, i2, e⟩ := (O5.out.so.ris F).2.1 q hq
              have hb := HBR.out
              rw [e, mkS_eq hb (by omega) (by have := HMD.out; have := HK8.out; omega)]
              omega))
            clear t5 O4 C2
            go_wp2_with fail
            refine C3.out.mono ?_
            rintro e w6 ⟨rfl, t6⟩
            have B6 := Lib.hid (O5.out.quiet F t6).bel
            clear t6 O5 C3
            go_wp2
            go_ret
            exact ⟨rfl, B6.out⟩


end Go.Proofs.YtjmainefmiefcaaGreat


/-
  The law 'postillionlaw13.SessAll' answers true at every input, and each argument reads behind the call as it read before: for every input, no condition; the frame round the walk 'sessAll_walk'.
-/
namespace Go.Proofs.YtjmainefmiefcaaGreat.sessAll
open Go.ChangeShapes Go.WideShapes Go.ChangeAt Go.RowKit
open Go.ChangeMaps (open_string shut_string)
set_option linter.unusedVariables false

theorem own : ownKnob Tryz.prog.godebug = none := by kernel_rfl
theorem laidOut : laidOutB Tryz.prog = true := by kernel_rfl

set_option maxRecDepth 100000 in
theorem lifted (os : Os) (started : os.Started) (H : Type) (enc : TypeId × Value → H) :
    ReturnsInHanded {} Tryz.checked os 5 .any (Rows.sessAllSpec.pre6 enc Tryz.prog Tryz.f5 Rows.sessAllRow.domain false) (Rows.sessAllSpec.post enc Tryz.prog Tryz.f5 false true false false) := by
  refine returnsInHanded_of_change (C := Tryz.checked) own started (by kernel_rfl) Tryz.func5
    (ChangeSpec.witness6 (enc := enc) (C := Tryz.checked) false ⟨#[], #[.int .i64 0, .slice none 0 0], []⟩ 8 (by kernel_rfl) (by kernel_rfl) (by kernel_rfl) (by kernel_rfl)) ?_
  intro W base args ds gs before hval0 hW hcnd _
  have hval : ∀ (j : Nat) t v, Tryz.f5.params[j]? = some t → args[j]? = some v → Value.okWide Tryz.prog W .any base t v := hval0
  have hW' := hW
  obtain ⟨p, q, hA0, hV, rfl, hfz, hnd⟩ := hW
  have hA : DataW.TrodAll enc Tryz.prog W 0 (fun _ => true) true Tryz.f5.params.toList args.toList ds p := hA0
  rw [Tryz.params5] at hA hval
  obtain ⟨v0, vs0, d0, ds0, p0, q0, hargs, rfl, rfl, h0, r0⟩ := trodAll_cons hA
  obtain ⟨v1, vs1, d1, ds1, p1, q1, rfl, rfl, rfl, h1, r1⟩ := trodAll_cons r0
  obtain ⟨rfl, rfl, rfl⟩ := trodAll_nil r1
  obtain rfl : args = #[v0, v1] := by cases args; simp_all
  obtain ⟨rfl, rfl⟩ := trodVars_none hV
  obtain ⟨a0, rfl, rfl, rfl, w0⟩ := open_int Tryz.underlying3 (hval 0 3 v0 rfl rfl) h0
  obtain ⟨a1, len1, cap1, rfl⟩ := okWide_slice Tryz.underlying22 (hval 1 22 v1 rfl rfl)
  have k1 := h1
  have lt1 : ∀ x ∈ p1, x.block < W.heap.size := by obtain ⟨m, hm⟩ := k1; exact DataW.trod_lt m _ _ _ hm
  obtain ⟨l1, rfl, w1⟩ := open_ops13 h1
  clear hA0 hval0
  refine (sessAll_walk Ss.sf_is begun13_ok (w := W) a0 w0 a1 cap1 l1 w1).mono fun e W' ⟨he, bel⟩ => ?_
  subst he
  exact ⟨_, rfl, _, _, _, [], _, [], hW', trodAll_mk1 (shut_bool Tryz.underlying4 _), (trodAll_cons_mk (shut_int Tryz.underlying3 w0) (trodAll_cons_mk (Below.trod laidOut (by kernel_rfl) (of_decide_eq_true (by kernel_rfl)) k1 bel lt1) trodAll_mk0)), rfl, bel.frame _, fun h => by cases h⟩

theorem over : Rows.sessAllRow.holds Tryz.pinned (OpenSpec.ofChange Rows.sessAllSpec) :=
  OpenClaim.holds_of_wide 5 Tryz.f5 rfl rfl rfl rfl rfl rfl rfl ⟨rfl, rfl, rfl, rfl, rfl⟩ rfl rfl rfl rfl rfl (by kernel_rfl) Tryz.func5 (by kernel_rfl)
    (of_decide_eq_true (by kernel_rfl)) (by unfold Func.isWrapper; first | (rw [if_pos (by decide +kernel)]; kernel_rfl) | (rw [if_neg (by decide +kernel)]; exact ⟨rfl, rfl⟩))
    (fun os started H enc _ => lifted os started H enc)

/-- The statement. -/
theorem proved : Rows.SessAllSaid := over
end Go.Proofs.YtjmainefmiefcaaGreat.sessAll
