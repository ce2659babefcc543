/-
  Of the texts SessNumbersWalk SessNumbers, in build order, each as it was built alone.
-/
import Derived.Test.YtjmainefmiefcaaGreatPkAH
import Derived.Test.YtjmainefmiefcaaGreatPkAB
import Derived.Test.YtjmainefmiefcaaGreatPkAD
import Derived.Deep.CutRange
import Derived.OpenShut
import Derived.BigQuiet
import Derived.Deep.RegionWith
import Derived.Test.YtjmainefmiefcaaGreatRows
import Derived.ProofKit
import Derived.ShutString
import Derived.ChangeOld
import Derived.Below

/-
  The walk of the law SessNumbers, over the contracts of a Sessions.
-/
namespace Go.Proofs.YtjmainefmiefcaaGreat
open Go.RowKit

variable {Ses : World → List Nat → Nat → Int → Nat → Int → Nat → List Sq → Prop}

def ids (S : List Sq) : List Int := S.map (·.id)

theorem ids_len (S : List Sq) : (ids S).length = S.length := by simp [ids]

/-- A row of numbers: its cells, from a place on, and up to one. -/
theorem ids_src {w : World} {B g m c : Nat} {L : List Int} (h : w.ownsRow B 2 1 (.slice (some ⟨g, 0, none⟩) m c) m (i64s L)) (hm : m = L.length) (o n c2 : Nat) (hn : o + n ≤ m) : Src 1 w (some ⟨g, o, none⟩) n c2 (i64s ((L.drop o).take n)) := by
  refine .inr ⟨_, rfl, by simp [i64s]; omega, fun j u hj => ?_⟩
  have hj2 : j < n := by
    have := (List.getElem?_eq_some_iff.1 hj).1
    simp [i64s] at this
    omega
  have := h.cells (g := g) rfl (o + j) u (by
    rw [← hj]
    simp only [i64s, List.getElem?_map, List.getElem?_take, List.getElem?_drop, if_pos hj2])
  rw [Addr.add_lit] at this ⊢
  rw [Nat.zero_add] at this
  exact this

/-- What the law keeps. -/
def Sn (Ses : World → List Nat → Nat → Int → Nat → Int → Nat → List Sq → Prop) (w wx : World) (vs : Value) (b made ns : Nat) (S : List Sq) : Prop :=
  S.length ≤ 20 ∧ wx.ownsRow 0 2 1 vs S.length (i64s (ids S)) ∧ So Ses w wx ([] ++ vs.ownBlock.toList) b 7 made 0 ns S

theorem Sn.bel {w wx : World} {vs : Value} {b made ns : Nat} {S : List Sq} (h : Sn Ses w wx vs b made ns S) : Below w.heap.size w wx := h.2.2.bel

theorem Sn.quiet (F : SF Ses) {w wx w' : World} {vs : Value} {b made ns : Nat} {S : List Sq} (h : Sn Ses w wx vs b made ns S) (t : Turn [] wx w') : Sn Ses w w' vs b made ns S :=
  ⟨h.1, ownsRow_turn h.2.1 t (by simp), h.2.2.quiet F t⟩

/-- Open, whichever. -/
theorem Sn.open (F : SF Ses) {w wx : World} {vs : Value} {b made ns : Nat} {S : List Sq} (h : Sn Ses w wx vs b made ns S) (hm : made ≤ 1000) (hn : ns ≤ 1000) :
    Calls Tryz.prog 28 #[.pointer (some ⟨b, 0, none⟩)] wx fun e w' => ∃ z ok, e = .returned (.tuple #[.int .i64 z, .bool ok]) ∧ w'.ownsRow 0 2 1 vs S.length (i64s (ids S)) ∧
      ((ok = false ∧ S.length = 20 ∧ So Ses w w' ([] ++ vs.ownBlock.toList) b 7 made 0 (ns + 1) S) ∨ (ok = true ∧ S.length < 20 ∧ z = makeZ 7 ((made : Int) + 1) ∧ So Ses w w' ([] ++ vs.ownBlock.toList) b 7 (made + 1) 0 (ns + 1) (S ++ [⟨z, 0, 0⟩]))) := by
  obtain ⟨h1, h2, h3⟩ := h
  by_cases hl : S.length < 20
  · refine (h3.call (br' := 7) (made' := made + 1) (tk' := 0) (ns' := ns + 1) (S' := S ++ [⟨makeZ 7 ((made : Int) + 1), 0, 0⟩]) (R := fun e _ => e = .returned (.tuple #[.int .i64 (makeZ 7 ((made : Int) + 1)), .bool true])) (fun os hs => ?_)).mono ?_
    · refine (F.open_ok hs hl hm hn).mono ?_
      rintro e w' ⟨os', rfl, h5, s5⟩
      exact ⟨os', rfl, h5, s5⟩
    · rintro e w' ⟨rfl, h5, off⟩
      exact ⟨_, _, rfl, off.row h2 (fun i hi => by simp [hi]), .inr ⟨rfl, hl, rfl, h5⟩⟩
  · refine (h3.call (br' := 7) (made' := made) (tk' := 0) (ns' := ns + 1) (S' := S) (R := fun e _ => e = .returned (.tuple #[.int .i64 0, .bool false])) (fun os hs => ?_)).mono ?_
    · refine (F.open_full hs (by omega) hm hn).mono ?_
      rintro e w' ⟨os', rfl, h5, s5⟩
      exact ⟨os', rfl, h5, s5⟩
    · rintro e w' ⟨rfl, h5, off⟩
      exact ⟨_, _, rfl, off.row h2 (fun i hi => by simp [hi]), .inl ⟨rfl, by omega, h5⟩⟩

/-- Close of the one at a place. -/
theorem Sn.close (F : SF Ses) {w wx : World} {vs : Value} {b made ns k : Nat} {S : List Sq} (h : Sn Ses w wx vs b made ns S) (hk : k < S.length) (hn : ns ≤ 1000) :
    Calls Tryz.prog 31 #[.pointer (some ⟨b, 0, none⟩), .int .i64 S[k].id] wx fun e w' => ∃ z, e = .returned (.tuple #[.int .i64 z, .bool true]) ∧ w'.ownsRow 0 2 1 vs S.length (i64s (ids S)) ∧ So Ses w w' ([] ++ vs.ownBlock.toList) b 7 made 0 (ns + 1) (S.take k ++ S.drop (k + 1)) := by
  obtain ⟨h1, h2, h3⟩ := h
  have e : S = S.take k ++ S[k] :: S.drop (k + 1) := by rw [← List.drop_eq_getElem_cons hk, List.take_append_drop]
  refine (h3.call (br' := 7) (made' := made) (tk' := 0) (ns' := ns + 1) (S' := S.take k ++ S.drop (k + 1)) (R := fun e _ => e = .returned (.tuple #[.int .i64 S[k].tid, .bool true])) (fun os hs => ?_)).mono ?_
  · generalize hq : S[k] = q at *
    rw [e] at hs
    refine (F.close_is hs hn).mono ?_
    rintro e w' ⟨os', rfl, h5, s5⟩
    exact ⟨os', rfl, h5, s5⟩
  · rintro e w' ⟨rfl, h5, off⟩
    exact ⟨_, rfl, off.row h2 (fun i hi => by simp [hi]), h5⟩

theorem ids_at {w : World} {B g m c : Nat} {S : List Sq} (h : w.ownsRow B 2 1 (.slice (some ⟨g, 0, none⟩) m c) m (i64s (ids S))) {k : Nat} (hk : k < S.length) : w.cell? ⟨g, k, none⟩ = some (.int .i64 S[k].id) := by
  have := h.cells (g := g) rfl k (.int .i64 S[k].id) (by simp [i64s, ids, hk])
  rwa [Addr.add_lit, Nat.zero_add] at this

theorem seven {z : Int} {i : Nat} (h1 : 1 ≤ i) (h2 : i ≤ 1000) (h : z = makeZ 7 (i : Int)) : z = 30064771072 + (i : Int) ∧ homeZ z = 7 := by
  have e : z = 30064771072 + (i : Int) := by
    rw [h]
    unfold makeZ
    rw [if_pos ⟨by decide, by omega, by omega⟩]
    omega
  exact ⟨e, (homeZ_is (by omega) (by omega)).2 (by omega)⟩

set_option maxHeartbeats 8000000 in
set_option maxRecDepth 100000 in
theorem sessNumbers_walk (F : SF Ses) (hbg : BegunOk) {w : World} (ab : Option Addr) (cb : Nat) (l : List Int) (hil : Il w ab cb l) : Calls Tryz.prog 11 #[.slice ab l.length cb] w fun e w' => e = .returned (.bool true) ∧ Below w.heap.size w w' := by
  have HS := Lib.hid hil
  have hlen := hil.len
  obtain ⟨n, hn⟩ : ∃ n, n = l.length := ⟨_, rfl⟩
  have HN := Lib.hid hn
  rw [← hn] at hlen ⊢
  clear hil hn
  obtain ⟨i0, hi, hz0, hz1, hz2⟩ := info_parts Tryz.row14
  have HI0 := Lib.hid (And.intro hi (And.intro hz0 (And.intro hz1 hz2)))
  go_enter Tryz.func11, Tryz.ntmps11
  go_wp2_with fail
  refine (hbg w).mono ?_
  rintro e w1 ⟨rfl, b1⟩
  have B1 := Lib.hid b1
  clear b1
  go_wp2_with fail
  refine (sw_new F B1.out 7 (by omega)).mono ?_
  rintro e w2 ⟨b, rfl, h2, -⟩
  have O2 : Hid (Sn Ses w w2 (.slice none 0 0) b 0 0 []) := Lib.hid ⟨by simp, World.ownsRow_nil _ _ _ _, So.start h2⟩
  clear h2 B1
  go_wp2_with fail
  go_loopw [5, 6, 7, 8, 9, 10, 11] (fun vs vi _ _ _ _ _ wx => ∃ (k made ns : Nat) (S : List Sq), k ≤ n ∧ k ≤ 60 ∧ made ≤ k ∧ ns ≤ 2 * k ∧ vi = .int .i64 (k : Int) ∧ Sn Ses w wx vs b made ns S) (fun _ vi _ _ _ _ _ _ => 61 - (intOf vi).toNat)
  case atStart => exact ⟨0, 0, 0, [], by omega, by omega, by omega, by omega, rfl, O2.out⟩
  case round =>
    obtain ⟨k, made, ns, S, hk, hk6, hmk, hns, rfl, ho⟩ := hrel
    have HNS := Lib.hid hns
    have O := Lib.hid ho
    have HMK := Lib.hid hmk
    obtain ⟨av, cv, rfl⟩ := row_slice ho.2.1
    clear ho O2 hmk hns
    by_cases hkn : (k : Int) < (n : Int)
    · by_cases hk60 : (k : Int) < 60
      · have HKN := Lib.hid hkn
        have HK60 := Lib.hid hk60
        have hkl : k < l.length := by have := HN.out; omega
        have C1 := Lib.hid (O.out.open F (by have := HMK.out; omega) (by have := HNS.out; omega))
        have hs20 := O.out.1
        have HS20 := Lib.hid hs20
        have HRIS := Lib.hid (O.out.2.2.ris F)
        obtain ⟨m, hm⟩ : ∃ m, m = S.length := ⟨_, rfl⟩
        have HM := Lib.hid hm
        rw [← hm] at hs20 ⊢
        clear hk hk6 hm O
        go_wp2_with fail
        refine C1.out.mono ?_
        rintro e w3 ⟨z, ok, rfl, hr3, hcs⟩
        have R3 := Lib.hid hr3
        have CS := Lib.hid hcs
        clear hr3 hcs C1
        go_upto_if 31 with fail


        go_cut [5] from 32 to 56 (fun vs wx => ∃ (made' : Nat) (S' : List Sq), made' ≤ k + 1 ∧ Sn Ses w wx vs b made' (ns + 1) S')
        case first =>
          rcases CS.out with ⟨h1, h2, h3⟩ | ⟨h1, h2, hz, h3⟩
          · subst h1
            have O3 := Lib.hid h3
            have hm20 : m = 20 := by rw [HM.out]; exact h2
            subst hm20
            clear h2 h3 CS
            go_wp2_with fail
            go_meet
            have hsn : Sn Ses w w3 (.slice av S.length cv) b made (ns + 1) S := ⟨HS20.out, R3.out, O3.out⟩
            rw [← HM.out] at hsn
            exact ⟨made, S, by have := HMK.out; omega, hsn⟩
          · subst h1
            have O3 := Lib.hid h3
            have hmz := seven (z := z) (i := made + 1) (by omega) (by have := HMK.out; have := HK60.out; omega) (by rw [hz]; congr 1)
            obtain ⟨hze, hzh⟩ := hmz
            have HOME := Lib.hid (refHome_calls z)
            rw [hzh] at HOME
            have HLT : Hid (∀ q ∈ S, q.id < z) := Lib.hid (fun q hq => by
              obtain ⟨i, i1, i2, e⟩ := HRIS.out.2.1 q hq
              have := (seven i1 (by have := HMK.out; have := HK60.out; omega) e).1
              omega)
            have HL2 := Lib.hid h2
            have hm19 : m < 20 := by rw [HM.out]; exact h2
            clear h2 h3 CS hz hze hzh
            by_cases hm0 : ¬ (0 : Int) < (m : Int)
            · go_wp2_with fail
              refine (HOME.out _).mono ?_
              rintro e w4 ⟨rfl, rfl⟩
              have hq0 := heap_alloc_new w3 (.cells #[.int .i64 z] 2)
              have T4 := Lib.hid (Turn.alloc [] w3 (.cells #[.int .i64 z] 2))
              have R4 := Lib.hid (ownsRow_turn R3.out T4.out (by simp))
              have O4 := Lib.hid (O3.out.quiet F T4.out)
              rw [← HM.out] at R4 O4
              have SRC := Lib.hid (src_one14 hq0)
              clear hq0
              go_wp2_with (at_builtin; refine append_srcO Tryz.underlying37 hi hz0 hz1 hz2 rfl (by decide) rfl (.tmp 50) (.tmp 52) rfl 0 (.slice av m cv) m (i64s (ids S)) rfl R4.out (Nat.zero_le _) _ 1 1 [.int .i64 z] rfl SRC.out (by intro u hu; simp at hu; subst hu; rfl) (by omega) (by omega) ?_; intro v4 w4 r4 g4 o4)
              have O5 := Lib.hid (O4.out.grow F (v := .slice av m cv) g4 r4 o4)
              have R5 := Lib.hid r4
              clear r4 g4 o4 O4 R4 SRC
              go_wp2_with fail
              go_meet
              refine ⟨made + 1, S ++ [⟨z, 0, 0⟩], by have := HMK.out; omega, by simp; have := HL2.out; omega, ?_, O5.out⟩
              have e1 : (S ++ [(⟨z, 0, 0⟩ : Sq)]).length = m + 1 := by rw [HM.out]; simp
              have e2 : i64s (ids (S ++ [(⟨z, 0, 0⟩ : Sq)])) = i64s (ids S) ++ [.int .i64 z] := by simp [i64s, ids]
              rw [e1, e2]
              exact R5.out
            · obtain ⟨p, hp⟩ : ∃ p, p + 1 = m := ⟨m - 1, by omega⟩
              have hm0' : (0 : Int) < (m : Int) := by omega
              have hpl : p < S.length := by rw [← HM.out]; omega
              obtain ⟨g, hg⟩ := row_addr R3.out (by omega)
              subst hg
              have hc := ids_at R3.out hpl
              have hzy := HLT.out S[p] (List.getElem_mem hpl)
              obtain ⟨y, hy⟩ : ∃ y, y = S[p].id := ⟨_, rfl⟩
              rw [← hy] at hc hzy
              have hzy' : ¬ z ≤ y := by omega
              have hw1 : IntKind.i64.wrap ((m : Int) - 1) = (p : Int) := by rw [IntKind.wrap_i64]; omega
              have hb1 : 0 ≤ (p : Int) ∧ (p : Int) < (m : Int) := by omega
              clear hy hpl
              go_wp2_with fail
              refine (HOME.out _).mono ?_
              rintro e w4 ⟨rfl, rfl⟩
              have hq0 := heap_alloc_new w3 (.cells #[.int .i64 z] 2)
              have T4 := Lib.hid (Turn.alloc [] w3 (.cells #[.int .i64 z] 2))
              have R4 := Lib.hid (ownsRow_turn R3.out T4.out (by simp))
              have O4 := Lib.hid (O3.out.quiet F T4.out)
              rw [← HM.out] at R4 O4
              have SRC := Lib.hid (src_one14 hq0)
              clear hq0
              go_wp2_with (at_builtin; refine append_srcO Tryz.underlying37 hi hz0 hz1 hz2 rfl (by decide) rfl (.tmp 50) (.tmp 52) rfl 0 (.slice (some ⟨g, 0, none⟩) m cv) m (i64s (ids S)) rfl R4.out (Nat.zero_le _) _ 1 1 [.int .i64 z] rfl SRC.out (by intro u hu; simp at hu; subst hu; rfl) (by omega) (by omega) ?_; intro v4 w4 r4 g4 o4)
              have O5 := Lib.hid (O4.out.grow F (v := .slice (some ⟨g, 0, none⟩) m cv) g4 r4 o4)
              have R5 := Lib.hid r4
              clear r4 g4 o4 O4 R4 SRC
              go_wp2_with fail
              go_meet
              refine ⟨made + 1, S ++ [⟨z, 0, 0⟩], by have := HMK.out; omega, by simp; have := HL2.out; omega, ?_, O5.out⟩
              have e1 : (S ++ [(⟨z, 0, 0⟩ : Sq)]).length = m + 1 := by rw [HM.out]; simp
              have e2 : i64s (ids (S ++ [(⟨z, 0, 0⟩ : Sq)])) = i64s (ids S) ++ [.int .i64 z] := by simp [i64s, ids]
              rw [e1, e2]
              exact R5.out
        case rest =>
          obtain ⟨made2, S2, hm2, hsn⟩ := hcut
          have HM2 := Lib.hid hm2
          obtain ⟨av2, cv2, rfl⟩ := row_slice hsn.2.1
          have hs2 := hsn.1
          have O6 := Lib.hid hsn
          have R6 := Lib.hid hsn.2.1
          have hq1 := (Turn.of_below hsn.bel [])
          obtain ⟨m2, hmm⟩ : ∃ m, m = S2.length := ⟨_, rfl⟩
          have HMM := Lib.hid hmm
          rw [← hmm] at hs2 O6 ⊢
          rcases HS.out with ⟨-, -, e⟩ | ⟨A1, rfl, -, -, hc1, hin⟩
          · rw [e] at hkl; simp at hkl
          obtain ⟨b1, o1, s1⟩ := A1
          have e1 : s1 = none := by simpa [Addr.add] using World.cell?_spot (hc1 0 (by omega))
          subst e1
          have q1 := hq1.cell (hc1 k hkl) (by simp)
          rw [Addr.add_lit] at q1
          have hx64 : inI64 (l.getD k 0) := by
            refine hin _ ?_
            rw [List.getD, List.getElem?_eq_getElem hkl]
            exact List.getElem_mem hkl
          obtain ⟨x, hx⟩ : ∃ x, x = l.getD k 0 := ⟨_, rfl⟩
          rw [← hx] at q1 hx64
          unfold inI64 at hx64
          have hbk : 0 ≤ (k : Int) := by omega
          clear hsn hm2 hmm hc1 hin hkl hx hq1 R3 CS HRIS HM HS20
          by_cases hm1 : 1 < (m2 : Int)
          · obtain ⟨kk, hkk, hkm⟩ : ∃ kk : Nat, (x.tmod (m2 : Int) + (m2 : Int)).tmod ((m2 : Int) - 1) = (kk : Int) ∧ kk + 1 < m2 := by
              have h1 : -(m2 : Int) < x.tmod (m2 : Int) := by
                rw [Int.tmod_eq_emod (a := x) (b := (m2 : Int))]
                have := Int.emod_nonneg x (b := (m2 : Int)) (by omega)
                have := Int.emod_lt_of_pos x (b := (m2 : Int)) (by omega)
                split
                · omega
                · simp; omega
              rw [Int.tmod_eq_emod_of_nonneg (by omega)]
              have h2 := Int.emod_nonneg (x.tmod (m2 : Int) + (m2 : Int)) (b := (m2 : Int) - 1) (by omega)
              have h3 := Int.emod_lt_of_pos (x.tmod (m2 : Int) + (m2 : Int)) (b := (m2 : Int) - 1) (by omega)
              exact ⟨((x.tmod (m2 : Int) + (m2 : Int)) % ((m2 : Int) - 1)).toNat, by omega, by omega⟩
            have hw2 : IntKind.i64.wrap (x.tmod (m2 : Int) + (m2 : Int)) = x.tmod (m2 : Int) + (m2 : Int) := by
              rw [IntKind.wrap_i64]
              have h1 : -(m2 : Int) < x.tmod (m2 : Int) ∧ x.tmod (m2 : Int) < (m2 : Int) := by
                rw [Int.tmod_eq_emod (a := x) (b := (m2 : Int))]
                have := Int.emod_nonneg x (b := (m2 : Int)) (by omega)
                have := Int.emod_lt_of_pos x (b := (m2 : Int)) (by omega)
                split
                · omega
                · simp; omega
              omega
            have hw3 : IntKind.i64.wrap ((m2 : Int) - 1) = (m2 : Int) - 1 := by rw [IntKind.wrap_i64]; omega
            have HKK := Lib.hid hkm
            have hkl : kk < S2.length := by rw [← HMM.out]; omega
            obtain ⟨g, hg⟩ := row_addr R6.out (by omega)
            subst hg
            have hc := ids_at R6.out hkl
            have CL := Lib.hid (O6.out.close F hkl (by have := HNS.out; have := HK60.out; omega))
            obtain ⟨y, hy⟩ : ∃ y, y = S2[kk].id := ⟨_, rfl⟩
            rw [← hy] at hc CL
            have hb2 : 0 ≤ (kk : Int) ∧ (kk : Int) < (m2 : Int) := by omega
            clear hy hkm
            go_wp2_with fail
            rotate_left
            · refine ⟨⟨k + 1, made2, ns + 1, S2, by have := HKN.out; omega, by have := HK60.out; omega, HM2.out, by have := HNS.out; omega, by go_num, O6.out⟩, ?_⟩
              have := HK60.out
              simp [intOf]
              omega
            refine CL.out.mono ?_
            rintro e w5 ⟨zt, rfl, r7, o7⟩
            have R7 := Lib.hid r7
            have O7 := Lib.hid o7
            clear r7 o7 CL
            go_upto_region 21 with fail
            have hmc2 : m2 ≤ cv2 := by
              rcases R7.out.2 with ⟨e, h0⟩ | ⟨g0, cap, cur, e, -, -, hle, -⟩
              · cases e
              · injection e with e1 e2 e3
                rw [HMM.out, e3]
                exact hle
            have hkm := HKK.out
            have HF : Hid (Src 1 w5 (some ⟨g, 0, none⟩) kk cv2 (i64s ((ids S2).take kk))) := Lib.hid (by
              have h7 := R7.out
              rw [← HMM.out] at h7
              have := ids_src h7 (by rw [ids_len]; exact HMM.out) 0 kk cv2 (by have := HMM.out; omega)
              rwa [List.drop_zero] at this)
            have HB : Hid (Src 1 w5 (some ⟨g, kk + 1, none⟩) (m2 - (kk + 1)) (cv2 - (kk + 1)) (i64s ((ids S2).drop (kk + 1)))) := Lib.hid (by
              have h7 := R7.out
              rw [← HMM.out] at h7
              have := ids_src h7 (by rw [ids_len]; exact HMM.out) (kk + 1) (m2 - (kk + 1)) (cv2 - (kk + 1)) (by have := HMM.out; omega)
              rwa [List.take_of_length_le (by rw [List.length_drop, ids_len]; have := HMM.out; omega)] at this)
            have hkc : kk ≤ cv2 ∧ kk + 1 ≤ cv2 := by omega
            have hcne : ¬ cv2 = kk + 1 := by omega
            have hbn : 0 ≤ (kk : Int) ∧ (kk : Int) ≤ (m2 : Int) := by omega
            have hbn2 : 0 ≤ (kk : Int) + 1 ∧ (kk : Int) + 1 ≤ (m2 : Int) := by omega
            have hw1 : IntKind.i64.wrap ((kk : Int) + 1) = ((kk + 1 : Nat) : Int) := by rw [IntKind.wrap_i64]; omega
            have hln : kk + (m2 - (kk + 1)) = (S2.take kk ++ S2.drop (kk + 1)).length := by
              rw [List.length_append, List.length_take, List.length_drop]
              have := HMM.out
              omega
            have HLN := Lib.hid hln
            have ONE : Hid (∀ L : List Int, ∀ u ∈ i64s L, u.oneCell' = true) := Lib.hid (fun L u hu => by
              obtain ⟨i, -, rfl⟩ := List.mem_map.1 hu
              rfl)
            clear hln hi hz0 hz1 hz2 hw2 hw3 q1 hc
            have TD := Lib.hid (Turn.drew [] w5)
            have hS : True := trivial
            refine Pq.start [] (fun _ => True) (fun _ => True) (by kernel_rfl) ?_
            refine Pq.tk 0 (some 93) (v := ?_) hS ?_ ?_
            rotate_left
            · (intro y hy; go_simp; try with_reducible rfl)
            simp only [Act.put, List.setIfInBounds_toArray, List.set_cons_zero, List.set_cons_succ]
            refine Pq.tk 1 (some 94) (v := ?_) hS ?_ ?_
            rotate_left
            · (intro y hy; go_simp; try with_reducible rfl)
            simp only [Act.put, List.setIfInBounds_toArray, List.set_cons_zero, List.set_cons_succ]
            refine Pq.tk 2 (some 95) (v := ?_) hS ?_ ?_
            rotate_left
            · (intro y hy; go_simp; try with_reducible rfl)
            simp only [Act.put, List.setIfInBounds_toArray, List.set_cons_zero, List.set_cons_succ]
            refine Pq.tk 4 (some 97) (v := ?_) hS ?_ ?_
            rotate_left
            · (intro y hy; go_simp; try with_reducible rfl)
            simp only [Act.put, List.setIfInBounds_toArray, List.set_cons_zero, List.set_cons_succ]
            refine Pq.tk 5 (some 98) (v := ?_) hS ?_ ?_
            rotate_left
            · (intro y hy; go_simp; try with_reducible rfl)
            simp only [Act.put, List.setIfInBounds_toArray, List.set_cons_zero, List.set_cons_succ]
            refine Pq.tk 6 (some 99) (v := ?_) hS ?_ ?_
            rotate_left
            · (intro y hy; go_simp; try with_reducible rfl)
            simp only [Act.put, List.setIfInBounds_toArray, List.set_cons_zero, List.set_cons_succ]
            refine Pq.tk 7 (some 100) (v := ?_) hS ?_ ?_
            rotate_left
            · (intro y hy; go_simp; try with_reducible rfl)
            simp only [Act.put, List.setIfInBounds_toArray, List.set_cons_zero, List.set_cons_succ]
            refine Pq.one (i := 3) (by kernel_rfl) rfl ?_
            intro K0 hK
            refine step_append_src Tryz.underlying37 HI0.out.1 HI0.out.2.1 HI0.out.2.2.1 HI0.out.2.2.2 rfl (by decide) rfl (.const (.slice none 0 0)) (.tmp 95) rfl w5.heap.size (.slice none 0 0) 0 [] rfl (World.ownsRow_nil _ _ _ _) TD.out.size _ _ _ _ rfl (HF.out.turn TD.out) (ONE.out _) (by omega) (by omega) (fun v1 y1 r1 g1 o1 => ?_)
            rw [Nat.zero_add, List.nil_append] at r1
            have T1 := Lib.hid (TD.out.trans (Turn.grown (l := []) g1 (fun k hk => by simp [Value.ownBlock] at hk)) (by simp))
            obtain ⟨p1, k1, hv1⟩ := row_slice r1
            subst hv1
            have R1 := Lib.hid r1
            clear r1 g1 o1
            refine hK _ _ trivial (.inr id) ?_
            clear hK K0
            refine Pq.one (i := 8) (by kernel_rfl) rfl ?_
            intro K0 hK
            refine step_append_src Tryz.underlying37 HI0.out.1 HI0.out.2.1 HI0.out.2.2.1 HI0.out.2.2.2 rfl (by decide) rfl (.tmp 96) (.tmp 100) rfl w5.heap.size (.slice p1 kk k1) kk _ rfl R1.out T1.out.size _ _ _ _ rfl (HB.out.turn T1.out) (ONE.out _) (by omega) (by omega) (fun v2 y2 r2 g2 o2 => ?_)
            have T2 := Lib.hid (T1.out.trans (Turn.grown (l := (Value.slice p1 kk k1).ownBlock.toList) g2 (fun q hq => .inl (by simp [hq]))) (fun q hq => .inr (R1.out.lt _ (Option.mem_toList.1 hq)).1))
            obtain ⟨p2, k2, hv2⟩ := row_slice r2
            subst hv2
            have R2 := Lib.hid r2
            clear r2 g2 o2
            refine hK _ _ trivial (.inr id) ?_
            clear hK K0
            refine Pq.tk 9 (some 5) (v := ?_) hS ?_ ?_
            rotate_left
            · (intro y hy; go_simp; try with_reducible rfl)
            refine Pq.done (by kernel_rfl) ?_ _
            have OD : Hid (Sn Ses w y2 (.slice p2 (kk + (m2 - (kk + 1))) k2) b made2 (ns + 1 + 1) (S2.take kk ++ S2.drop (kk + 1))) := Lib.hid ⟨by rw [← HLN.out]; omega, by
              rw [← HLN.out, show i64s (ids (S2.take kk ++ S2.drop (kk + 1))) = i64s ((ids S2).take kk) ++ i64s ((ids S2).drop (kk + 1)) by simp [i64s, ids]]
              exact ownsRow_base R2.out (fun _ _ => Nat.zero_le _), O7.out.extra F (l := []) T2.out (by simp) (fun q hq => by
              have := R2.out.lt _ (Option.mem_toList.1 (by simpa using hq))
              exact ⟨.inr this.1, this.2⟩)⟩
            clear hw1
            go_wp2_with fail
            go_roundw
            case rel => exact ⟨k + 1, made2, ns + 1 + 1, _, by have := HKN.out; omega, by have := HK60.out; omega, HM2.out, by have := HNS.out; omega, by go_num, OD.out⟩
            case measure => have := HK60.out; simp [intOf]; omega
          · go_wp2_with fail
            all_goals
              refine ⟨⟨k + 1, made2, ns + 1, S2, by have := HKN.out; omega, by have := HK60.out; omega, HM2.out, by have := HNS.out; omega, by go_num, O6.out⟩, ?_⟩
              have := HK60.out
              simp [intOf]
              omega
      · have hkk : ¬ (k : Int) < 60 := hk60
        go_wp2
        go_ret
        exact ⟨rfl, O.out.bel⟩
    · go_wp2
      go_ret
      exact ⟨rfl, O.out.bel⟩

end Go.Proofs.YtjmainefmiefcaaGreat


/-
  The law 'postillionlaw13.SessNumbers' answers true at every input, and each argument reads behind the call as it read before: for every input, no condition; the frame round the walk 'sessNumbers_walk'.
-/
namespace Go.Proofs.YtjmainefmiefcaaGreat.sessNumbers
open Go.ChangeShapes Go.WideShapes Go.ChangeAt Go.RowKit
open Go.ChangeMaps (open_string shut_string)
set_option linter.unusedVariables false

theorem own : ownKnob Tryz.prog.godebug = none := by kernel_rfl
theorem laidOut : laidOutB Tryz.prog = true := by kernel_rfl

set_option maxRecDepth 100000 in
theorem lifted (os : Os) (started : os.Started) (H : Type) (enc : TypeId × Value → H) :
    ReturnsInHanded {} Tryz.checked os 11 .any (Rows.sessNumbersSpec.pre6 enc Tryz.prog Tryz.f11 Rows.sessNumbersRow.domain false) (Rows.sessNumbersSpec.post enc Tryz.prog Tryz.f11 false true false false) := by
  refine returnsInHanded_of_change (C := Tryz.checked) own started (by kernel_rfl) Tryz.func11
    (ChangeSpec.witness6 (enc := enc) (C := Tryz.checked) false ⟨#[], #[.slice none 0 0], []⟩ 8 (by kernel_rfl) (by kernel_rfl) (by kernel_rfl) (by kernel_rfl)) ?_
  intro W base args ds gs before hval0 hW hcnd _
  have hval : ∀ (j : Nat) t v, Tryz.f11.params[j]? = some t → args[j]? = some v → Value.okWide Tryz.prog W .any base t v := hval0
  have hW' := hW
  obtain ⟨p, q, hA0, hV, rfl, hfz, hnd⟩ := hW
  have hA : DataW.TrodAll enc Tryz.prog W 0 (fun _ => true) true Tryz.f11.params.toList args.toList ds p := hA0
  rw [Tryz.params11] at hA hval
  obtain ⟨v0, vs0, d0, ds0, p0, q0, hargs, rfl, rfl, h0, r0⟩ := trodAll_cons hA
  obtain ⟨rfl, rfl, rfl⟩ := trodAll_nil r0
  obtain rfl : args = #[v0] := by cases args; simp_all
  obtain ⟨rfl, rfl⟩ := trodVars_none hV
  obtain ⟨a0, len0, cap0, rfl⟩ := okWide_slice Tryz.underlying62 (hval 0 62 v0 rfl rfl)
  have k0 := h0
  have lt0 : ∀ x ∈ p0, x.block < W.heap.size := by obtain ⟨m, hm⟩ := k0; exact DataW.trod_lt m _ _ _ hm
  obtain ⟨l0, rfl, w0⟩ := open_nums13 h0
  clear hA0 hval0
  refine (sessNumbers_walk Ss.sf_is begun13_ok (w := W) a0 cap0 l0 w0).mono fun e W' ⟨he, bel⟩ => ?_
  subst he
  exact ⟨_, rfl, _, _, _, [], _, [], hW', trodAll_mk1 (shut_bool Tryz.underlying4 _), (trodAll_cons_mk (Below.trod laidOut (by kernel_rfl) (of_decide_eq_true (by kernel_rfl)) k0 bel lt0) trodAll_mk0), rfl, bel.frame _, fun h => by cases h⟩

theorem over : Rows.sessNumbersRow.holds Tryz.pinned (OpenSpec.ofChange Rows.sessNumbersSpec) :=
  OpenClaim.holds_of_wide 11 Tryz.f11 rfl rfl rfl rfl rfl rfl rfl ⟨rfl, rfl, rfl, rfl, rfl⟩ rfl rfl rfl rfl rfl (by kernel_rfl) Tryz.func11 (by kernel_rfl)
    (of_decide_eq_true (by kernel_rfl)) (by unfold Func.isWrapper; first | (rw [if_pos (by decide +kernel)]; kernel_rfl) | (rw [if_neg (by decide +kernel)]; exact ⟨rfl, rfl⟩))
    (fun os started H enc _ => lifted os started H enc)

/-- The statement. -/
theorem proved : Rows.SessNumbersSaid := over
end Go.Proofs.YtjmainefmiefcaaGreat.sessNumbers
