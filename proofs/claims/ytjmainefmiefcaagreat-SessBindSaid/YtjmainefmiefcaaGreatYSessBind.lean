/-
  Of the texts SessBindWalk SessBind, in build order, each as it was built alone.
-/
import Derived.Test.YtjmainefmiefcaaGreatPkAJ
import Derived.Test.YtjmainefmiefcaaGreatPkAB
import Derived.Lib.MinMax
import Derived.Deep.CutRange
import Derived.OpenShut
import Derived.BigQuiet
import Derived.Deep.RegionWith
import Derived.Test.YtjmainefmiefcaaGreatRows
import Derived.Test.YtjmainefmiefcaaGreatPkAH
import Derived.ProofKit
import Derived.ShutString
import Derived.ChangeOld
import Derived.Below

/-
  The walk of the law SessBind, over the contracts of a Sessions.
-/
namespace Go.Proofs.YtjmainefmiefcaaGreat
open Go.RowKit

variable {Ses : World → List Nat → Nat → Int → Nat → Int → Nat → List Sq → Prop}

theorem rest4 (y : Int) : (y.tmod 4 + 4).tmod 4 = y % 4 := by
  have h0 := Int.tmod_eq_emod (a := y) (b := 4)
  rw [Int.tmod_eq_emod_of_nonneg (by split at h0 <;> omega)]
  split at h0 <;> omega

/-- Whether another one of the first j has it. -/
def tk (H : Nat → Int) (kk : Nat) (t : Int) : Nat → Bool
  | 0 => false
  | j + 1 => tk H kk t j || (decide (j ≠ kk) && (decide (t ≠ 0) && decide (H j = t)))

theorem tk_true {H : Nat → Int} {kk : Nat} {t : Int} : ∀ {m : Nat}, tk H kk t m = true → t ≠ 0 ∧ ∃ j, j < m ∧ j ≠ kk ∧ H j = t
  | 0, h => by cases h
  | m + 1, h => by
    unfold tk at h
    rw [Bool.or_eq_true] at h
    rcases h with h | h
    · obtain ⟨h0, j, hj, h1⟩ := tk_true h
      exact ⟨h0, j, by omega, h1⟩
    · simp at h
      exact ⟨h.2.1, m, by omega, h.1, h.2.2⟩

theorem tk_false {H : Nat → Int} {kk : Nat} {t : Int} : ∀ {m : Nat}, tk H kk t m = false → t = 0 ∨ ∀ j, j < m → j ≠ kk → H j ≠ t
  | 0, _ => .inr (fun j hj => by omega)
  | m + 1, h => by
    unfold tk at h
    rw [Bool.or_eq_false_iff] at h
    rcases tk_false h.1 with h0 | h0
    · exact .inl h0
    · by_cases ht : t = 0
      · exact .inl ht
      · refine .inr (fun j hj hk e => ?_)
        by_cases hjm : j = m
        · subst hjm
          have := h.2
          simp [hk, ht, e] at this
        · exact h0 j (by omega) hk e

theorem il_sr {w : World} {ao : Option Addr} {c : Nat} {l : List Int} (h : Il w ao c l) : Sr w ao c l := by
  rcases h with ⟨h1, h2, h3⟩ | ⟨A, h1, -, -, h4, -⟩
  · exact .inl ⟨h1, h2, h3⟩
  · exact .inr ⟨A, h1, h4⟩

theorem il_in {w : World} {ao : Option Addr} {c : Nat} {l : List Int} (h : Il w ao c l) : ∀ x ∈ l, inI64 x := by
  rcases h with ⟨-, -, h3⟩ | ⟨A, -, -, -, -, h5⟩
  · rw [h3]
    simp
  · exact h5

/-- What a Bind that may be and the store behind it leave. -/
theorem Bd.put (F : SF Ses) {w wx : World} {g cv hb b ns : Nat} {H : Nat → Int} {t : Int} (hr : wx.ownsRow 0 2 1 (.slice (some ⟨g, 0, none⟩) 4 cv) 4 (i64s (fi 4))) (hh : wx.heap[hb]? = some (.cells #[.int .i64 (H 0), .int .i64 (H 1), .int .i64 (H 2), .int .i64 (H 3)] 63)) {k : Nat} (hk : k < 4) (ho : So Ses w wx [g, hb] b 1 4 0 ns (bS (upd H k t))) (hg : g ≠ hb) :
    Bd Ses w (wx.setCell ⟨hb, k, none⟩ (.int .i64 t)) g cv hb b ns (upd H k t) := by
  have tt : Turn [hb] wx (wx.setCell ⟨hb, k, none⟩ (.int .i64 t)) := Turn.setCell (l := [hb]) wx (by simp) _
  have hgl := (hr.lt g rfl).2
  have hhl := lt_of_heap hh
  refine ⟨ownsRow_turn hr tt (fun i hi => by cases hi; simpa using hg), ?_, ho.extra F tt (by simp) (fun i hi => ?_), hg⟩
  · have e := block_set (i := k) hh (.int .i64 t)
    have key : ∀ k, k < 4 → (#[Value.int .i64 (H 0), .int .i64 (H 1), .int .i64 (H 2), .int .i64 (H 3)] : Array Value).setIfInBounds k (.int .i64 t) = #[.int .i64 (upd H k t 0), .int .i64 (upd H k t 1), .int .i64 (upd H k t 2), .int .i64 (upd H k t 3)] := four rfl rfl rfl rfl
    rw [e, key k hk]
  · refine ⟨.inl hi, ?_⟩
    have hs : (wx.setCell ⟨hb, k, none⟩ (.int .i64 t)).heap.size = wx.heap.size := by simp [World.setCell]
    simp only [List.mem_cons, List.not_mem_nil, or_false] at hi
    rcases hi with rfl | rfl <;> omega

theorem HOk.upd {H : Nat → Int} (h : HOk H) {k : Nat} {t : Int} (ht : 0 ≤ t ∧ t ≤ 3) (hf : t = 0 ∨ ∀ j, j < 4 → j ≠ k → H j ≠ t) : HOk (upd H k t) := by
  refine ⟨fun j => ?_, fun i j hi hj hij h0 => ?_⟩
  · unfold Go.Proofs.YtjmainefmiefcaaGreat.upd
    split
    · exact ht
    · exact h.1 j
  · unfold Go.Proofs.YtjmainefmiefcaaGreat.upd at h0 ⊢
    by_cases e1 : i = k
    · rw [if_pos e1] at h0 ⊢
      rw [if_neg (by omega)]
      exact fun e => (hf.resolve_left h0) j hj (by omega) e.symm
    · rw [if_neg e1] at h0 ⊢
      by_cases e2 : j = k
      · rw [if_pos e2]
        rcases hf with rfl | hf
        · exact h0
        · exact hf i hi e1
      · rw [if_neg e2]
        exact h.2 i j hi hj hij h0

theorem tk_no {H : Nat → Int} {kk : Nat} {t : Int} {j : Nat} (h : tk H kk t j = false) (hn : j = kk ∨ t = 0) : tk H kk t (j + 1) = false := by
  unfold tk
  rw [h]
  rcases hn with hn | hn <;> simp [hn]

theorem tk_eq {H : Nat → Int} {kk : Nat} {t : Int} {j : Nat} (h : tk H kk t j = false) (h1 : j ≠ kk) (h2 : t ≠ 0) : tk H kk t (j + 1) = decide (H j = t) := by
  unfold tk
  rw [h]
  simp [h1, h2]

set_option maxHeartbeats 8000000 in
set_option maxRecDepth 100000 in
theorem sessBind_walk (F : SF Ses) (hbg : BegunOk) {w : World} (ab : Option Addr) (cb : Nat) (l : List Int) (hil : Il w ab cb l) : Calls Tryz.prog 10 #[.slice ab l.length cb] w fun e w' => e = .returned (.bool true) ∧ Below w.heap.size w w' := by
  have HS : Hid (Sr w ab cb l) := Lib.hid (il_sr hil)
  have HI : Hid (∀ x ∈ l, inI64 x) := Lib.hid (il_in hil)
  have hlen := hil.len
  obtain ⟨n, hn⟩ : ∃ n, n = l.length := ⟨_, rfl⟩
  have HN := Lib.hid hn
  rw [← hn] at hlen ⊢
  clear hil hn
  obtain ⟨i0, hi, hz0, hz1, hz2⟩ := info_parts Tryz.row14
  go_enter Tryz.func10, Tryz.ntmps10
  go_wp2_with fail
  refine (hbg w).mono ?_
  rintro e w1 ⟨rfl, b1⟩
  have B1 := Lib.hid b1
  clear b1
  go_wp2_with fail
  refine (sw_new F B1.out 1 (by omega)).mono ?_
  rintro e w2 ⟨b, rfl, h2, -⟩
  have O2 := Lib.hid (So.start h2)
  clear h2 B1
  go_wp2_with fail
  go_loopw [5, 6, 7, 8] (fun vs vi _ _ wx => ∃ k : Nat, k ≤ 4 ∧ vi = .int .i64 (k : Int) ∧ wx.ownsRow 0 2 1 vs k (i64s (fi k)) ∧ So Ses w wx ([] ++ vs.ownBlock.toList) b 1 k 0 k (fb k)) (fun _ vi _ _ _ => 5 - (intOf vi).toNat)
  case atStart => exact ⟨0, by omega, rfl, World.ownsRow_nil _ _ _ _, O2.out⟩
  case round =>
    obtain ⟨k, hk, rfl, hr, ho⟩ := hrel
    have O := Lib.hid ho
    have R := Lib.hid hr
    obtain ⟨av, cv, rfl⟩ := row_slice hr
    clear ho O2 hr
    by_cases hkn : (k : Int) < 4
    · have HK : Hid (k < 4) := Lib.hid (by omega)
      have C1 := Lib.hid (O.out.call (br' := 1) (made' := k + 1) (tk' := 0) (ns' := k + 1) (S' := fb (k + 1)) (f := 28) (args := #[.pointer (some ⟨b, 0, none⟩)]) (R := fun e _ => e = .returned (.tuple #[.int .i64 (makeZ 1 ((k : Int) + 1)), .bool true])) (fun os h => by
        rw [fb_succ]
        refine (F.open_ok h (by rw [fb_length]; omega) (by omega) (by omega)).mono ?_
        rintro e w' ⟨os', rfl, h2, s2⟩
        exact ⟨os', rfl, h2, s2⟩))
      obtain ⟨z, hz⟩ : ∃ z, z = makeZ 1 ((k : Int) + 1) := ⟨_, rfl⟩
      rw [← hz] at C1
      have HZ := Lib.hid hz
      obtain ⟨i, hki⟩ : ∃ i : Int, i = (k : Int) := ⟨_, rfl⟩
      have HKI := Lib.hid hki
      rw [← hki] at hkn ⊢
      have hi0 : 0 ≤ i := by omega
      clear O hz hki hk
      go_wp2_with fail
      refine C1.out.mono ?_
      rintro e w3 ⟨rfl, h3, off⟩
      have R3 := Lib.hid (off.row R.out (fun k hk => by simp [hk]))
      have O3 := Lib.hid h3
      clear h3 C1 off R
      have hq0 := heap_alloc_new w3 (.cells #[.int .i64 z] 2)
      have T4 := Lib.hid (Turn.alloc [] w3 (.cells #[.int .i64 z] 2))
      have R4 := Lib.hid (ownsRow_turn R3.out T4.out (by simp))
      have O4 := Lib.hid (O3.out.quiet F T4.out)
      have SRC := Lib.hid (src_one14 hq0)
      clear hq0 R3 O3
      go_wp2_with (at_builtin; refine append_srcO Tryz.underlying37 hi hz0 hz1 hz2 rfl (by decide) rfl (.tmp 31) (.tmp 33) rfl 0 (.slice av k cv) k (i64s (fi k)) rfl R4.out (Nat.zero_le _) _ 1 1 [.int .i64 z] rfl SRC.out (by intro u hu; simp at hu; subst hu; rfl) (by have := HK.out; omega) (by have := HK.out; omega) ?_; intro v4 w4 r4 g4 o4)
      have O5 := Lib.hid (O4.out.grow F (v := .slice av k cv) g4 r4 o4)
      have R5 := Lib.hid r4
      clear r4 g4 o4 O4 R4 SRC
      go_wp2_with fail
      go_roundw
      case rel => exact ⟨k + 1, HK.out, by rw [HKI.out]; go_num, by rw [fi_succ, i64s_append, ← HZ.out]; exact R5.out, O5.out⟩
      case measure => have := HK.out; have := HKI.out; simp [intOf]; omega
    · have hkk : k = 4 := by omega
      subst hkk
      obtain ⟨g, hg⟩ := row_addr R.out (by omega)
      subst hg
      have D1 := Lib.hid (Bd.start F R.out O.out)
      clear O R hk
      go_wp2_with fail
      obtain ⟨hb, hhb⟩ : ∃ q, q = wr.heap.size := ⟨_, rfl⟩
      rw [← hhb] at D1 ⊢
      obtain ⟨wc, hwc⟩ : ∃ x, x = wr.alloc (.cells #[.int .i64 0, .int .i64 0, .int .i64 0, .int .i64 0] 63) := ⟨_, rfl⟩
      rw [← hwc] at D1 ⊢
      clear hwc hhb
      go_loopw [10, 11, 12, 13, 14, 15] (fun vi _ _ _ _ _ wx => ∃ (k : Nat) (H : Nat → Int), k ≤ n ∧ k ≤ 40 ∧ vi = .int .i64 (k : Int) ∧ HOk H ∧ Bd Ses w wx g cv hb b (4 + k) H) (fun vi _ _ _ _ _ _ => 41 - (intOf vi).toNat)
      case atStart => exact ⟨0, fun _ => 0, by omega, by omega, rfl, ⟨by simp, by simp⟩, D1.out⟩
      case round =>
        obtain ⟨k, H, hk, hk4, rfl, hok, hd⟩ := hrel
        have D := Lib.hid hd
        have HH := Lib.hid hok
        clear hd D1 hok
        by_cases hkn : (k : Int) < (n : Int)
        · by_cases hk40 : (k : Int) < 40
          · have HKN := Lib.hid hkn
            have HK40 := Lib.hid hk40
            have hkl : k < l.length := by have := HN.out; omega
            rcases HS.out with ⟨-, -, e⟩ | ⟨A1, rfl, hc1⟩
            · rw [e] at hkl; simp at hkl
            obtain ⟨b1, o1, s1⟩ := A1
            have e1 : s1 = none := by simpa [Addr.add] using World.cell?_spot (hc1 0 (by omega))
            subst e1
            have q1 := (Turn.of_below D.out.bel []).cell (hc1 k hkl) (by simp)
            rw [Addr.add_lit] at q1
            have hx64 : inI64 (l.getD k 0) := by
              refine HI.out _ ?_
              rw [List.getD, List.getElem?_eq_getElem hkl]
              exact List.getElem_mem hkl
            obtain ⟨x, hx⟩ : ∃ x, x = l.getD k 0 := ⟨_, rfl⟩
            rw [← hx] at q1 hx64
            unfold inI64 at hx64
            have ba : -4 < x.tmod 4 ∧ x.tmod 4 < 4 := by
              rw [Int.tmod_eq_emod (a := x) (b := 4)]
              split <;> omega
            obtain ⟨y, hy⟩ : ∃ y, y = x.tdiv 4 := ⟨_, rfl⟩
            have hyx := Int.mul_tdiv_add_tmod x 4
            rw [← hy] at hyx
            have hyb : -9223372036854775808 ≤ y ∧ y ≤ 9223372036854775807 := by omega
            have bb : -4 < y.tmod 4 ∧ y.tmod 4 < 4 := by
              rw [Int.tmod_eq_emod (a := y) (b := 4)]
              split <;> omega
            obtain ⟨kk, hkk⟩ : ∃ kk : Nat, (kk : Int) = x % 4 := ⟨(x % 4).toNat, by omega⟩
            obtain ⟨t, ht⟩ : ∃ t : Int, t = y % 4 := ⟨_, rfl⟩
            have ea : (x.tmod 4 + 4).tmod 4 = (kk : Int) := by rw [hkk]; exact rest4 x
            have eb : (y.tmod 4 + 4).tmod 4 = t := by rw [ht]; exact rest4 y
            have KK : Hid (kk < 4) := Lib.hid (by omega)
            have K40 := Lib.hid hk4
            have HT : Hid (0 ≤ t ∧ t ≤ 3) := Lib.hid (by omega)
            have ed := hy.symm
            have hbk : 0 ≤ (k : Int) := by omega
            clear hyx hkk ht hx hc1 hkl hk hk4 hy
            go_wp2_with fail
            go_quiet (fail)
            have D2 := Lib.hid (D.out.quiet F (Turn.drewN [] wr nq))
            generalize wr.drewN nq = wq at *
            have EA := Lib.hid ea
            have EB := Lib.hid eb
            have HX := Lib.hid q1
            clear D q1 ba bb hx64 hyb ea eb ed hbk hkn hk40
            go_wp2_with fail
            go_loopw [13, 14] (fun vt vj wx => ∃ j : Nat, j ≤ 4 ∧ vj = .int .i64 (j : Int) ∧ vt = .bool (tk H kk t j) ∧ wx = wq) (fun _ vj _ => 5 - (intOf vj).toNat)
            case atStart => exact ⟨0, by omega, rfl, rfl, by trivial⟩
            case round =>
              obtain ⟨j, hj, rfl, rfl, hwx⟩ := hrel
              by_cases hj4 : (j : Int) < 4
              · have HJ : Hid (j < 4) := Lib.hid (by omega)
                have qh := D2.out.has j HJ.out
                have hb0 : 0 ≤ (j : Int) := by omega
                obtain ⟨b0, hb0'⟩ : ∃ z, z = tk H kk t j := ⟨_, rfl⟩
                have HB := Lib.hid hb0'
                rw [← hb0'] at ⊢
                obtain ⟨z, hz⟩ : ∃ z, z = H j := ⟨_, rfl⟩
                have HZ := Lib.hid hz
                rw [← hz] at qh
                clear hb0' hz hj
                by_cases h1 : b0 = true
                · subst h1
                  go_wp2_with fail
                  go_roundw
                  case rel => exact ⟨j + 1, HJ.out, by go_num, by unfold tk; rw [← HB.out]; simp, by trivial⟩
                  case measure => have := HJ.out; simp [intOf]; omega
                · have h1' : b0 = false := by simpa using h1
                  subst h1'
                  clear h1
                  go_wp2_with fail
                  · next hjk =>
                    have hjk' : j = kk := by omega
                    refine ⟨⟨j + 1, HJ.out, by rw [← hjk]; go_num, congrArg Value.bool (tk_no HB.out.symm (.inl hjk')).symm, by trivial⟩, ?_⟩
                    have := HJ.out
                    simp [intOf]
                    omega
                  · next hjk ht0 =>
                    subst ht0
                    go_roundw
                    case rel => exact ⟨j + 1, HJ.out, by go_num, congrArg Value.bool (tk_no HB.out.symm (.inr rfl)).symm, by trivial⟩
                    case measure => have := HJ.out; simp [intOf]; omega
                  · next hjk ht0 =>
                    refine ⟨⟨j + 1, HJ.out, by go_num, congrArg Value.bool ?_, by trivial⟩, ?_⟩
                    · rw [tk_eq HB.out.symm (fun e => hjk (by rw [e])) ht0, ← HZ.out]
                      have e1 : ((j : Int) != (kk : Int)) = true := by simpa using hjk
                      have e2 : (t != 0) = true := by simpa using ht0
                      rw [e1, e2]
                      by_cases e3 : z = t <;> simp [e3]
                    · have := HJ.out
                      simp [intOf]
                      omega
              · have hjj : j = 4 := by omega
                obtain ⟨bt, hbt⟩ : ∃ z, z = tk H kk t j := ⟨_, rfl⟩
                rw [← hbt] at ⊢
                rw [hjj] at hbt
                have HBT := Lib.hid hbt
                rw [hwx]
                obtain ⟨ji, hji⟩ : ∃ i : Int, i = (j : Int) := ⟨_, rfl⟩
                rw [← hji] at ⊢
                have hj4' : ¬ ji < 4 := by rw [hji]; exact hj4
                clear hbt hjj hwx hj4 hji hj
                go_upto_region 23 with fail
                go_cut [89] from 81 to 89 (fun v89 wx => v89 = .bool false ∧ ((bt = true ∧ Bd Ses w wx g cv hb b (4 + k + 1) H) ∨ (bt = false ∧ wx.ownsRow 0 2 1 (.slice (some ⟨g, 0, none⟩) 4 cv) 4 (i64s (fi 4)) ∧ wx.heap[hb]? = some (.cells #[.int .i64 (H 0), .int .i64 (H 1), .int .i64 (H 2), .int .i64 (H 3)] 63) ∧ So Ses w wx [g, hb] b 1 4 0 (4 + k + 1) (bS (upd H kk t)))))
                case first =>
                  have qi := D2.out.ids kk KK.out
                  have hkb : 0 ≤ (kk : Int) ∧ (kk : Int) < 4 := by have := KK.out; omega
                  by_cases h1 : bt = true
                  · subst h1
                    obtain ⟨ht0, j, hj, hjk, hHt⟩ := tk_true HBT.out.symm
                    have C := Lib.hid (D2.out.bind_no F KK.out (t := t) (by have := HT.out; omega) ⟨j, hj, hjk, hHt⟩ (by have := K40.out; omega))
                    clear ht0 hj hjk hHt
                    generalize makeZ 1 ((kk : Int) + 1) = zi at *
                    go_wp2_with fail
                    refine C.out.mono ?_
                    rintro e w5 ⟨rfl, d5⟩
                    have D5 := Lib.hid d5
                    clear d5 C
                    go_wp2_with fail
                    go_meet
                    exact ⟨by trivial, .inl ⟨by trivial, D5.out⟩⟩
                  · have h1' : bt = false := by simpa using h1
                    subst h1'
                    have C := Lib.hid (D2.out.bind_ok F KK.out (t := t) HT.out (tk_false HBT.out.symm) (by have := K40.out; omega))
                    generalize makeZ 1 ((kk : Int) + 1) = zi at *
                    clear h1
                    go_wp2_with fail
                    refine C.out.mono ?_
                    rintro e w5 ⟨rfl, r5, h5, o5⟩
                    have R5 := Lib.hid r5
                    have H5 := Lib.hid h5
                    have O5 := Lib.hid o5
                    clear C r5 h5 o5
                    go_wp2_with fail
                    go_meet
                    exact ⟨by trivial, .inr ⟨by trivial, R5.out, H5.out, O5.out⟩⟩
                case rest =>
                  obtain ⟨rfl, hcs⟩ := hcut
                  have HGH : Hid (g ≠ hb) := Lib.hid D2.out.2.2.2
                  obtain ⟨H', HH5, D5⟩ : ∃ H' : Nat → Int, Hid (HOk H') ∧ Hid (Bd Ses w (if bt then wc else wc.setCell ⟨hb, kk, none⟩ (.int .i64 t)) g cv hb b (4 + k + 1) H') := by
                    rcases hcs with ⟨h1, hd⟩ | ⟨h1, r5, h5, o5⟩
                    · subst h1
                      exact ⟨H, HH, Lib.hid hd⟩
                    · subst h1
                      exact ⟨_, Lib.hid (HH.out.upd HT.out (tk_false HBT.out.symm)), Lib.hid (Bd.put F r5 h5 KK.out o5 HGH.out)⟩
                  have hcs2 : bt = true ∨ (bt = false ∧ wc.frozen? ⟨hb, kk, none⟩ = false ∧ ∃ u, wc.cell? ⟨hb, kk, none⟩ = some u) := by
                    rcases hcs with ⟨h1, -⟩ | ⟨h1, -, h5, -⟩
                    · exact .inl h1
                    · exact .inr ⟨h1, unfrozen_of h5, ⟨_, four (P := fun k => wc.cell? ⟨hb, k, none⟩ = some (.int .i64 (H k))) (by rw [cell_of_row _ _ _ _ _ _ h5]; rfl) (by rw [cell_of_row _ _ _ _ _ _ h5]; rfl) (by rw [cell_of_row _ _ _ _ _ _ h5]; rfl) (by rw [cell_of_row _ _ _ _ _ _ h5]; rfl) kk KK.out⟩⟩
                  have hkb : 0 ≤ (kk : Int) ∧ (kk : Int) < 4 := by have := KK.out; omega
                  clear hcs D2 HBT
                  rcases hcs2 with h1 | ⟨h1, hfr, u0, hu0⟩
                  · subst h1
                    obtain ⟨wy, hwy⟩ : ∃ y, y = wc := ⟨_, rfl⟩
                    subst hwy
                    rw [if_pos rfl] at D5
                    go_upto_region 27 with fail
                    go_wp2_with fail
                    clear hkb
                    go_loopw [15] (fun vj wx => ∃ j : Nat, j ≤ 4 ∧ vj = .int .i64 (j : Int) ∧ Bd Ses w wx g cv hb b (4 + k + 1) H') (fun vj _ => 5 - (intOf vj).toNat)
                    case atStart => exact ⟨0, by omega, rfl, D5.out⟩
                    case round =>
                      obtain ⟨j, hj, rfl, hd⟩ := hrel
                      have D := Lib.hid hd
                      clear hd D5
                      by_cases hj4 : (j : Int) < 4
                      · have HJ : Hid (j < 4) := Lib.hid (by omega)
                        have qi := D.out.ids j HJ.out
                        have qh := D.out.has j HJ.out
                        have FT := Lib.hid (Tw.call (y := wr) (fun x t => (D.out.quiet F t).tid F HJ.out))
                        have FO := Lib.hid (fun h0 => Tw.call (y := wr) (fun x t => (D.out.quiet F t).of F HJ.out h0))
                        obtain ⟨z, hz⟩ : ∃ z, z = makeZ 1 ((j : Int) + 1) := ⟨_, rfl⟩
                        obtain ⟨u, hu⟩ : ∃ u, u = H' j := ⟨_, rfl⟩
                        rw [← hz] at qi FT FO
                        rw [← hu] at qh FT FO
                        have hb0 : 0 ≤ (j : Int) ∧ (j : Int) < 4 := by omega
                        clear hz hu hj
                        by_cases hu0 : u = 0
                        · subst hu0
                          clear FO
                          go_upto_region 30 with fail
                          replace qi := fun p : Tw wr => p.cell qi
                          replace qh := fun p : Tw wr => p.cell qh
                          refine quiet_turn (by kernel_rfl) (by kernel_rfl) ?_
                          repeat (go_big_quiet_step (first | (go_at_call 33; exact FT.out _)))
                          refine wpQuiet_nil ?_
                          rintro wp ⟨⟨_, tp⟩, rfl⟩
                          have D6 := Lib.hid (D.out.quiet F tp)
                          clear tp D qi qh FT
                          go_wp2_with fail
                          go_roundw
                          case rel => exact ⟨j + 1, HJ.out, by go_num, D6.out⟩
                          case measure => have := HJ.out; simp [intOf]; omega
                        · have hu1 : (u != 0) = true := by simpa using hu0
                          have FO := Lib.hid (FO.out hu0)
                          go_upto_region 30 with fail
                          replace qi := fun p : Tw wr => p.cell qi
                          replace qh := fun p : Tw wr => p.cell qh
                          refine quiet_turn (by kernel_rfl) (by kernel_rfl) ?_
                          repeat (go_big_quiet_step (first | (go_at_call 33; exact FT.out _) | (go_at_call 34; exact FO.out _)))
                          refine wpQuiet_nil ?_
                          rintro wp ⟨⟨_, tp⟩, rfl⟩
                          have D6 := Lib.hid (D.out.quiet F tp)
                          clear tp D qi qh FT FO
                          go_wp2_with fail
                          go_roundw
                          case rel => exact ⟨j + 1, HJ.out, by go_num, D6.out⟩
                          case measure => have := HJ.out; simp [intOf]; omega
                      · have r4 : ¬ (j : Int) < 4 := hj4
                        have hkb2 : 0 ≤ (k : Int) ∧ (k : Int) < 40 := ⟨by omega, HK40.out⟩
                        go_wp2_with fail
                        go_roundw
                        case rel => exact ⟨k + 1, H', by have := HKN.out; omega, by have := HK40.out; omega, by go_num, HH5.out, D.out⟩
                        case measure => have := HK40.out; simp [intOf]; omega
                  · subst h1
                    rw [if_neg (by simp)] at D5
                    go_upto_region 27 with fail
                    generalize wc.setCell ⟨hb, kk, none⟩ (.int .i64 t) = wy at *
                    go_wp2_with fail
                    clear hkb
                    go_loopw [15] (fun vj wx => ∃ j : Nat, j ≤ 4 ∧ vj = .int .i64 (j : Int) ∧ Bd Ses w wx g cv hb b (4 + k + 1) H') (fun vj _ => 5 - (intOf vj).toNat)
                    case atStart => exact ⟨0, by omega, rfl, D5.out⟩
                    case round =>
                      obtain ⟨j, hj, rfl, hd⟩ := hrel
                      have D := Lib.hid hd
                      clear hd D5
                      by_cases hj4 : (j : Int) < 4
                      · have HJ : Hid (j < 4) := Lib.hid (by omega)
                        have qi := D.out.ids j HJ.out
                        have qh := D.out.has j HJ.out
                        have FT := Lib.hid (Tw.call (y := wr) (fun x t => (D.out.quiet F t).tid F HJ.out))
                        have FO := Lib.hid (fun h0 => Tw.call (y := wr) (fun x t => (D.out.quiet F t).of F HJ.out h0))
                        obtain ⟨z, hz⟩ : ∃ z, z = makeZ 1 ((j : Int) + 1) := ⟨_, rfl⟩
                        obtain ⟨u, hu⟩ : ∃ u, u = H' j := ⟨_, rfl⟩
                        rw [← hz] at qi FT FO
                        rw [← hu] at qh FT FO
                        have hb0 : 0 ≤ (j : Int) ∧ (j : Int) < 4 := by omega
                        clear hz hu hj
                        by_cases hu0 : u = 0
                        · subst hu0
                          clear FO
                          go_upto_region 30 with fail
                          replace qi := fun p : Tw wr => p.cell qi
                          replace qh := fun p : Tw wr => p.cell qh
                          refine quiet_turn (by kernel_rfl) (by kernel_rfl) ?_
                          repeat (go_big_quiet_step (first | (go_at_call 33; exact FT.out _)))
                          refine wpQuiet_nil ?_
                          rintro wp ⟨⟨_, tp⟩, rfl⟩
                          have D6 := Lib.hid (D.out.quiet F tp)
                          clear tp D qi qh FT
                          go_wp2_with fail
                          go_roundw
                          case rel => exact ⟨j + 1, HJ.out, by go_num, D6.out⟩
                          case measure => have := HJ.out; simp [intOf]; omega
                        · have hu1 : (u != 0) = true := by simpa using hu0
                          have FO := Lib.hid (FO.out hu0)
                          go_upto_region 30 with fail
                          replace qi := fun p : Tw wr => p.cell qi
                          replace qh := fun p : Tw wr => p.cell qh
                          refine quiet_turn (by kernel_rfl) (by kernel_rfl) ?_
                          repeat (go_big_quiet_step (first | (go_at_call 33; exact FT.out _) | (go_at_call 34; exact FO.out _)))
                          refine wpQuiet_nil ?_
                          rintro wp ⟨⟨_, tp⟩, rfl⟩
                          have D6 := Lib.hid (D.out.quiet F tp)
                          clear tp D qi qh FT FO
                          go_wp2_with fail
                          go_roundw
                          case rel => exact ⟨j + 1, HJ.out, by go_num, D6.out⟩
                          case measure => have := HJ.out; simp [intOf]; omega
                      · have r4 : ¬ (j : Int) < 4 := hj4
                        have hkb2 : 0 ≤ (k : Int) ∧ (k : Int) < 40 := ⟨by omega, HK40.out⟩
                        go_wp2_with fail
                        go_roundw
                        case rel => exact ⟨k + 1, H', by have := HKN.out; omega, by have := HK40.out; omega, by go_num, HH5.out, D.out⟩
                        case measure => have := HK40.out; simp [intOf]; omega
          · have hkk : ¬ (k : Int) < 40 := hk40
            go_wp2
            go_ret
            exact ⟨rfl, D.out.bel⟩
        · go_wp2
          go_ret
          exact ⟨rfl, D.out.bel⟩

end Go.Proofs.YtjmainefmiefcaaGreat


/-
  The law 'postillionlaw13.SessBind' answers true at every input, and each argument reads behind the call as it read before: for every input, no condition; the frame round the walk 'sessBind_walk'.
-/
namespace Go.Proofs.YtjmainefmiefcaaGreat.sessBind
open Go.ChangeShapes Go.WideShapes Go.ChangeAt Go.RowKit
open Go.ChangeMaps (open_string shut_string)
set_option linter.unusedVariables false

theorem own : ownKnob Tryz.prog.godebug = none := by kernel_rfl
theorem laidOut : laidOutB Tryz.prog = true := by kernel_rfl

set_option maxRecDepth 100000 in
theorem lifted (os : Os) (started : os.Started) (H : Type) (enc : TypeId × Value → H) :
    ReturnsInHanded {} Tryz.checked os 10 .any (Rows.sessBindSpec.pre6 enc Tryz.prog Tryz.f10 Rows.sessBindRow.domain false) (Rows.sessBindSpec.post enc Tryz.prog Tryz.f10 false true false false) := by
  refine returnsInHanded_of_change (C := Tryz.checked) own started (by kernel_rfl) Tryz.func10
    (ChangeSpec.witness6 (enc := enc) (C := Tryz.checked) false ⟨#[], #[.slice none 0 0], []⟩ 8 (by kernel_rfl) (by kernel_rfl) (by kernel_rfl) (by kernel_rfl)) ?_
  intro W base args ds gs before hval0 hW hcnd _
  have hval : ∀ (j : Nat) t v, Tryz.f10.params[j]? = some t → args[j]? = some v → Value.okWide Tryz.prog W .any base t v := hval0
  have hW' := hW
  obtain ⟨p, q, hA0, hV, rfl, hfz, hnd⟩ := hW
  have hA : DataW.TrodAll enc Tryz.prog W 0 (fun _ => true) true Tryz.f10.params.toList args.toList ds p := hA0
  rw [Tryz.params10] at hA hval
  obtain ⟨v0, vs0, d0, ds0, p0, q0, hargs, rfl, rfl, h0, r0⟩ := trodAll_cons hA
  obtain ⟨rfl, rfl, rfl⟩ := trodAll_nil r0
  obtain rfl : args = #[v0] := by cases args; simp_all
  obtain ⟨rfl, rfl⟩ := trodVars_none hV
  obtain ⟨a0, len0, cap0, rfl⟩ := okWide_slice Tryz.underlying62 (hval 0 62 v0 rfl rfl)
  have k0 := h0
  have lt0 : ∀ x ∈ p0, x.block < W.heap.size := by obtain ⟨m, hm⟩ := k0; exact DataW.trod_lt m _ _ _ hm
  obtain ⟨l0, rfl, w0⟩ := open_nums13 h0
  clear hA0 hval0
  refine (sessBind_walk Ss.sf_is begun13_ok (w := W) a0 cap0 l0 w0).mono fun e W' ⟨he, bel⟩ => ?_
  subst he
  exact ⟨_, rfl, _, _, _, [], _, [], hW', trodAll_mk1 (shut_bool Tryz.underlying4 _), (trodAll_cons_mk (Below.trod laidOut (by kernel_rfl) (of_decide_eq_true (by kernel_rfl)) k0 bel lt0) trodAll_mk0), rfl, bel.frame _, fun h => by cases h⟩

theorem over : Rows.sessBindRow.holds Tryz.pinned (OpenSpec.ofChange Rows.sessBindSpec) :=
  OpenClaim.holds_of_wide 10 Tryz.f10 rfl rfl rfl rfl rfl rfl rfl ⟨rfl, rfl, rfl, rfl, rfl⟩ rfl rfl rfl rfl rfl (by kernel_rfl) Tryz.func10 (by kernel_rfl)
    (of_decide_eq_true (by kernel_rfl)) (by unfold Func.isWrapper; first | (rw [if_pos (by decide +kernel)]; kernel_rfl) | (rw [if_neg (by decide +kernel)]; exact ⟨rfl, rfl⟩))
    (fun os started H enc _ => lifted os started H enc)

/-- The statement. -/
theorem proved : Rows.SessBindSaid := over
end Go.Proofs.YtjmainefmiefcaaGreat.sessBind
