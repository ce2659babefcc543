/-
  The walk of the law SegOwn.
-/
import Derived.Test.YtgachdaphdjddaaGreatDoorBegun4
import Derived.Test.YtgachdaphdjddaaGreatDoorSegPut
import Derived.Test.YtgachdaphdjddaaGreatDoorSegAllOwn
import Derived.Test.YtgachdaphdjddaaGreatDoorShortNew
import Derived.Test.YtgachdaphdjddaaGreatDoorOpen
import Derived.BigQuiet
namespace Go.Proofs.YtgachdaphdjddaaGreatDoor
open Go.RowKit

theorem lit_sl (w : World) (l : List UInt8) (cs : Array Value) (n : Nat) (h : cs.toList = u8s l) (hn : l.length = n) (hm : n ≤ 1000) : Sl (w.alloc (.cells cs 5 (0, 0))) (some ⟨w.heap.size, 0, none⟩) n l := by
  subst hn
  have hs : cs.size = l.length * 1 := by rw [← Array.length_toList, h, u8s_length]; omega
  have h1 := World.ownsRow_lit (base := w.heap.size) (e := 5) (size := 1) w cs l.length (Nat.le_refl _) (by unfold maxLen; omega) hs
  rw [h] at h1
  obtain ⟨a, c, he, hsl, -⟩ := Sl.of_owns h1
  injection he with e1 e2 e3
  subst e1 e3
  exact hsl

/-- Bytes that may be written. -/
def Wr (w : World) (g n : Nat) : Prop := ∃ cs, w.heap[g]? = some (.cells cs 5 (0, 0)) ∧ ∀ j, j < n → ∃ z, cs[j]? = some (.int .u8 z)

theorem Wr.cell {w : World} {g n j : Nat} (h : Wr w g n) (hj : j < n) : (∃ z, w.cell? ⟨g, j, none⟩ = some (.int .u8 z)) ∧ w.frozen? ⟨g, j, none⟩ = false := by
  obtain ⟨cs, h1, h2⟩ := h
  obtain ⟨z, hz⟩ := h2 j hj
  exact ⟨⟨z, by rw [cell_of_row w g j _ _ _ h1]; exact hz⟩, unfrozen_of h1⟩

theorem Wr.set {w : World} {g n : Nat} (h : Wr w g n) (k : Nat) (z : Int) : Wr (w.setCell ⟨g, k, none⟩ (.int .u8 z)) g n := by
  obtain ⟨cs, h1, h2⟩ := h
  refine ⟨_, block_set h1 _, fun j hj => ?_⟩
  obtain ⟨y, hy⟩ := h2 j hj
  by_cases e : k = j
  · subst e
    exact ⟨z, Array.getElem?_setIfInBounds_self_of_lt (Array.getElem?_eq_some_iff.1 hy).1⟩
  · exact ⟨y, by rw [Array.getElem?_setIfInBounds_ne e]; exact hy⟩

theorem Wr.turn {w w' : World} {g n : Nat} {l : List Nat} (h : Wr w g n) (t : Turn l w w') (hg : g ∉ l) : Wr w' g n := by
  obtain ⟨cs, h1, h2⟩ := h
  exact ⟨cs, t.heap h1 hg, h2⟩

theorem Wr.of_row {w : World} {base : Nat} {v : Value} {y : List UInt8} (h : w.ownsRow base 5 1 v y.length (u8s y)) (hy : 0 < y.length) : ∃ g c, v = .slice (some ⟨g, 0, none⟩) y.length c ∧ base ≤ g ∧ g < w.heap.size ∧ Wr w g y.length := by
  obtain ⟨-, ⟨rfl, h0⟩ | ⟨g, cap, cur, rfl, hB, hg, hn, hm, hs, ht⟩⟩ := h
  · omega
  · refine ⟨g, cap, rfl, hB, lt_of_heap hg, cur, hg, fun j hj => ?_⟩
    have h1 : (u8s y)[j]? = some (.int .u8 ((y.getD j 0).toNat : Int)) := u8s_at hj
    rw [← ht, Nat.mul_one] at h1
    rw [List.getElem?_take_of_lt hj] at h1
    exact ⟨_, by simpa using h1⟩

set_option maxHeartbeats 8000000 in
set_option maxRecDepth 100000 in
theorem segOwn_walk (a0 : Option Addr) (cap0 : Nat) (l0 : List UInt8) (w : World) (w0 : Sl w a0 cap0 l0) (htab : Tab w) :
    Calls Tryz.prog 12 #[.slice a0 l0.length cap0] w fun e w' => e = .returned (.bool true) ∧ Below w.heap.size w w' := by
  have H0 := Lib.hid w0
  have HTB := Lib.hid htab
  clear w0 htab
  go_enter Tryz.func12, Tryz.ntmps12
  go_wp2_with fail
  refine (begun4_calls _ HTB.out).mono ?_
  rintro e x1 ⟨rfl, hb1⟩
  have B1 := Lib.hid hb1
  have T1 := Lib.hid (HTB.out.turn (Turn.of_below hb1 []) (by simp))
  have S0 := Lib.hid (H0.out.belowAll hb1)
  clear hb1 H0
  go_wp2_with fail
  refine (short_own a0 cap0 50 l0 x1 S0.out (by omega)).mono ?_
  rintro e x2 ⟨v2, rfl, hown2, hb2'⟩
  obtain ⟨y0, hy0⟩ : ∃ y, y = l0.take 50 := ⟨_, rfl⟩
  have hy0l : y0.length ≤ 50 := by rw [hy0, List.length_take]; omega
  rw [← hy0] at hown2
  clear hy0
  have V2 := Lib.hid (show ∀ g, v2.ownBlock = some g → x1.heap.size ≤ g from fun g hg => (hown2.lt g hg).1)
  have hl1 := lit_sl x2 [1] #[.int .u8 1] 1 rfl rfl (by omega)
  have tA := Turn.alloc [] x2 (.cells #[.int .u8 1] 5 (0, 0))
  have R2a := Lib.hid (ownsRow_turn (ownsRow_base hown2 (base' := 0) (fun _ _ => Nat.zero_le _)) tA (fun _ _ => by simp))
  have BA := Lib.hid (hb2'.trans (tA.belowAll.mono hb2'.size))
  have L1 := Lib.hid hl1
  clear hl1 tA hown2 hb2' S0
  go_wp2_with (at_builtin; refine append_bytes_at rfl (.tmp 15) (.tmp 16) rfl v2 y0 rfl R2a.out (some ⟨x2.heap.size, 0, none⟩) 1 [1] rfl L1.out (by simp; omega) ?_)
  intro v3 x3 hown3 hg3 hat3
  have B3 := Lib.hid (BA.out.grown hg3 BA.out.size V2.out)
  obtain ⟨y, hya⟩ : ∃ y, y = y0 ++ [1] := ⟨_, rfl⟩
  have hyl : 1 ≤ y.length ∧ y.length ≤ 51 := by rw [hya]; simp; omega
  have hR3 : x3.ownsRow 0 5 1 v3 y.length (u8s y) := by rw [hya]; simpa using hown3
  obtain ⟨ab, cb, rfl, hsb, -⟩ := Sl.of_owns hR3
  have SB := Lib.hid hsb
  have hab3 : ∀ A, ab = some A → A.block < x3.heap.size := fun A hA => by
    rw [hA] at hsb
    exact hsb.lt (by intro e; rw [e] at hyl; simp at hyl)
  obtain ⟨ny, hny⟩ : ∃ n, n = y.length := ⟨_, rfl⟩
  have HNY := Lib.hid hny
  rw [← hny] at hyl ⊢
  clear hown3 hg3 hat3 V2 R2a BA L1 hya hR3 hsb hny
  go_wp2_with (at_builtin; refine append_bytes_at rfl (.const (.slice none 0 0)) (.tmp 18) rfl (.slice none 0 0) [] rfl (World.ownsRow_nil _ _ _ _) ab cb y (by rw [← HNY.out]; rfl) SB.out (by rw [← HNY.out]; simp; omega) ?_)
  intro v4 x4 hown4 hg4 hat4
  have hR4 : x4.ownsRow 0 5 1 v4 y.length (u8s y) := by simpa using hown4
  obtain ⟨gc, cc, rfl, -, hgc, hw4⟩ := Wr.of_row hR4 (by rw [← HNY.out]; omega)
  have hb4 : Below x3.heap.size x3 x4 := (Below.refl _ _).grown hg4 (Nat.le_refl _) (by intro k hk; cases hk)
  have hgc3 : gc = x3.heap.size := by
    rcases hat4 with h1 | h1
    · cases h1
    · exact Option.some.inj h1
  obtain ⟨-, -, hs4, -⟩ : ∃ (_ : True) (_ : True), Sl x4 (some ⟨gc, 0, none⟩) cc y ∧ True := by
    obtain ⟨a, c, he, hs, -⟩ := Sl.of_owns hR4
    injection he with e1 e2 e3
    subst e1 e3
    exact ⟨trivial, trivial, hs, trivial⟩
  have AB := Lib.hid (show ∀ A, ab = some A → A.block < gc by rw [hgc3]; exact hab3)
  clear hab3
  have SC := Lib.hid hs4
  have WC := Lib.hid hw4
  have SB4 := Lib.hid (SB.out.belowAll hb4)
  have B4 := Lib.hid (B3.out.trans (hb4.mono B3.out.size))
  have GC := Lib.hid (show x1.heap.size ≤ gc ∧ gc < x4.heap.size from ⟨by rw [hgc3]; exact B3.out.size, hgc⟩)
  have T4 := Lib.hid (T1.out.turn (Turn.of_below B4.out []) (by simp))
  rw [← HNY.out]
  clear hown4 hg4 hat4 hR4 hgc hw4 hb4 hgc3 hs4 SB B3
  go_wp2_with fail
  refine (dk_new 1000 x4).mono ?_
  rintro e x5 ⟨rfl, hd⟩
  rw [show roomOf 1000 = 1000 by decide] at hd
  have D5 := Lib.hid hd
  obtain ⟨d, hdd⟩ : ∃ d, d = x4.heap.size := ⟨_, rfl⟩
  rw [← hdd] at D5 ⊢
  clear hd hdd
  go_wp2_with fail
  refine (open_calls D5.out T4.out 0 (by decide) 0 (fun n => by simp [mDel, bytesOf]) (by simp)).mono ?_
  rintro e x6 ⟨hok, -⟩
  obtain ⟨lb, rfl, hl6⟩ := hok (by rw [(open_empty 1000).1])
  rw [(open_empty 1000).1, (open_empty 1000).2] at hl6
  have hl6' : Lg [] x4 x6 lb d 1000 0 [] (oneM []) := hl6
  obtain ⟨L0, hL0, hge0⟩ := hl6'.start
  have b46 := hl6'.1.belowAll
  have SC6 := Lib.hid (SC.out.belowAll b46)
  have SB6 := Lib.hid (SB4.out.belowAll b46)
  have WC6 := Lib.hid (WC.out.turn hl6'.1 (by simp))
  have B6 := Lib.hid (B4.out.trans (b46.mono B4.out.size))
  have GL0 := Lib.hid (show ∀ k ∈ L0, x4.heap.size ≤ k from hge0)
  have hok1 : okF y = true := okF_iff.2 (by rw [← HNY.out]; omega)
  have CA := add_calls hL0.1 (some ⟨gc, 0, none⟩) cc y hok1 SC6.out (fun A hA _ hm => by cases hA; have h1 := hge0 _ hm; have h2 := GC.out.2; simp only at h1; omega) (by rw [(oneM_to (by simp [frs_nil])).1]; decide) (by simp)
  rw [(oneM_to (by simp [frs_nil])).1, (oneM_to (by simp [frs_nil])).2, oneM_app.1, oneM_app.2, frs_nil, if_neg (by rw [← HNY.out]; simp; omega), if_neg (by rw [← HNY.out]; simp; omega), ← HNY.out] at CA
  have HCA := Lib.hid CA
  clear hl6 hl6' hok D5 hL0 hge0 b46 CA hok1 SC SB4 WC B4
  go_wp2_with fail
  refine HCA.out.mono ?_
  rintro e x7 ⟨rfl, hl7, -⟩
  have hl7' := hl7 (by trivial)
  rw [List.nil_append] at hl7'
  obtain ⟨L, hL, hin⟩ := hl7'.next
  have t7 := hl7'.1
  have hgL : ∀ k ∈ L, gc < k := fun k hk => by
    have h2 := GC.out.2
    rcases hin k hk with h1 | h1
    · have := GL0.out k h1; omega
    · have := hl7'.1.size
      have h3 := WC6.out
      obtain ⟨cs, hcs, -⟩ := h3
      have := lt_of_heap hcs
      omega
  have LA := Lib.hid hL
  have GL := Lib.hid hgL
  have WC7 := Lib.hid (WC6.out.turn t7 (fun hm => by have h1 := GL0.out _ hm; have h2 := GC.out.2; omega))
  have SB7 := Lib.hid (SB6.out.turn t7 (fun A hA _ hm => by have h1 := GL0.out _ hm; have h2 := GC.out.2; have h3 := AB.out A hA; omega))
  have B7 := Lib.hid (B6.out.trans (t7.below (B := x1.heap.size) (fun k hk => by have h1 := GL0.out _ hk; have h2 := GC.out; omega) B6.out.size))
  have NT := Lib.hid (show tabB < x1.heap.size from T1.out.lt)
  clear hl7 hl7' hL hin t7 hgL HCA WC6 SB6 B6 SC6 GL0
  rw [← HNY.out] at WC7
  go_wp2_with fail
  go_loopw [35] (fun i wr => ∃ k : Nat, k ≤ ny ∧ i = .int .i64 k ∧ LgAt L wr lb d 1000 0 [y] (oneM [y]) ∧ Wr wr gc ny ∧ Sl wr ab cb y ∧ Below x1.heap.size x1 wr) (fun i _ => ny - (intOf i).toNat)
  case atStart => exact ⟨0, by omega, rfl, LA.out, WC7.out, SB7.out, B7.out⟩
  case round =>
    clear LA WC7 SB7 B7
    obtain ⟨k, hk, rfl, hla, hwr, hsl, hbl⟩ := hrel
    have LA := Lib.hid hla
    have WR := Lib.hid hwr
    have SL := Lib.hid hsl
    have BL := Lib.hid hbl
    clear hla hwr hsl hbl
    by_cases hlt : k < ny
    · obtain ⟨⟨z, hz⟩, hf⟩ := WR.out.cell hlt
      go_wp2
      go_roundw
      case rel =>
        have t : Turn [gc] wr (wr.setCell ⟨gc, k, none⟩ (.int .u8 (bits .xor .u8 z 255))) := Turn.setCell wr (by simp) _
        exact ⟨k + 1, by omega, by go_num, LA.out.shift t (fun j hj hm => by have h1 := GL.out j hm; simp at hj; omega) (by have h1 := NT.out; have h2 := GC.out.1; simp; omega), WR.out.set k _, SL.out.turn t (fun A hA _ hm => by have h1 := AB.out A hA; simp at hm; omega), BL.out.trans (t.below (by have h1 := GC.out.1; simp; omega) BL.out.size)⟩
      case measure => simp [intOf]; omega
    · have hdl : decide ((k : Int) < (ny : Int)) = false := by simp; omega
      have CW := all_own LA.out.1 (by intro i hi; simp at hi; subst hi; show y.length ≤ 1048576; rw [← HNY.out]; omega)
      have HCW := Lib.hid CW
      clear CW
      go_wp2_with fail
      refine HCW.out.mono ?_
      rintro e x8 ⟨rfl, ⟨xs, hx1, hx2, hx3⟩, hb8⟩
      obtain ⟨v, hv, hvr⟩ := hx3 0 (by simp) (by simp)
      obtain ⟨g2, c2, rfl, hg2, hg2', hw8⟩ := Wr.of_row hvr (by show 0 < y.length; rw [← HNY.out]; omega)
      have hq8 : x8.cell? ⟨wr.heap.size, 0, none⟩ = some (.slice (some ⟨g2, 0, none⟩) y.length c2) := by
        rw [hx2.cellAt 0 (by simp), List.getElem?_append_left (by rw [hx1]; simp)]
        exact hv
      have hw8' : Wr x8 g2 y.length := hw8
      rw [← HNY.out] at hq8 hw8'
      obtain ⟨q, hq⟩ : ∃ q, q = wr.heap.size := ⟨_, rfl⟩
      have LA8 := Lib.hid (LA.out.shift (Turn.of_below hb8 []) (by simp) (by simp))
      have LT8 := Lib.hid (show ∀ j ∈ L, j < q by rw [hq]; exact LA.out.2)
      have SL8 := Lib.hid (SL.out.belowAll hb8)
      have BL8 := Lib.hid (BL.out.trans (hb8.mono BL.out.size))
      have AQ := Lib.hid (show ∀ A, ab = some A → A.block < q from fun A hA => by
        have h1 := AB.out A hA
        obtain ⟨cs, hcs, -⟩ := WR.out
        have := lt_of_heap hcs
        omega)
      have QX := Lib.hid (show x1.heap.size ≤ q by rw [hq]; exact BL.out.size)
      rw [← hq] at hq8 hg2 ⊢
      have Q8 := Lib.hid hq8
      have W8 := Lib.hid hw8'
      have G2 := Lib.hid hg2
      clear hq hq8 hw8 hw8' hvr hv hx1 hx2 hx3 hg2 hg2' hb8 HCW LA WR SL BL GL AB
      go_wp2_with fail
      go_loopw [49] (fun i wz => ∃ k : Nat, k ≤ 1 ∧ i = .int .i64 k ∧ LgAt L wz lb d 1000 0 [y] (oneM [y]) ∧ wz.cell? ⟨q, 0, none⟩ = some (.slice (some ⟨g2, 0, none⟩) ny c2) ∧ Wr wz g2 ny ∧ Sl wz ab cb y ∧ Below x1.heap.size x1 wz) (fun i _ => 1 - (intOf i).toNat)
      case atStart => exact ⟨0, by omega, rfl, LA8.out, Q8.out, W8.out, SL8.out, BL8.out⟩
      case round =>
        clear LA8 Q8 W8 SL8 BL8 hlt hdl hk
        obtain ⟨j, hj, rfl, hla, hq8, hwr, hsl, hbl⟩ := hrel
        have LA := Lib.hid hla
        have WR := Lib.hid hwr
        have SL := Lib.hid hsl
        have BL := Lib.hid hbl
        clear hla hwr hsl hbl
        rcases j with _ | j
        · obtain ⟨⟨z, hz⟩, hf⟩ := WR.out.cell (j := 0) (by omega)
          have hn0 : (0 : Int) < (ny : Int) := by omega
          have hn1 : 0 < ny := by omega
          go_wp2
          go_roundw
          case rel =>
            have t : Turn [g2] wr (wr.setCell ⟨g2, 0, none⟩ (.int .u8 (bits .xor .u8 z 9))) := Turn.setCell wr (by simp) _
            have h2 := G2.out
            exact ⟨1, by omega, by go_num, LA.out.shift t (fun j hj hm => by have h1 := LT8.out j hm; simp at hj; omega) (by have h1 := NT.out; have h3 := QX.out; simp; omega), t.cell hq8 (by simp; omega), WR.out.set 0 _, SL.out.turn t (fun A hA _ hm => by have h1 := AQ.out A hA; simp at hm; omega), BL.out.trans (t.below (by have h1 := QX.out; simp; omega) BL.out.size)⟩
          case measure => simp [intOf]
        · obtain rfl : j = 0 := by omega
          clear hq8
          have CW := all_calls LA.out.1 (by intro i hi; simp at hi; subst hi; show y.length ≤ 1048576; rw [← HNY.out]; omega)
          have HCW := Lib.hid CW
          clear CW
          go_wp2_with fail
          refine HCW.out.mono ?_
          rintro e xf ⟨rfl, htx, hbf⟩
          obtain ⟨af, cf, hcellf, hsf⟩ := htx.at (i := 0) (by simp)
          have hcell : xf.cell? ⟨wr.heap.size, 0, none⟩ = some (.slice af ny cf) := by rw [HNY.out]; exact hcellf
          have hsb := SL.out.belowAll hbf
          have hc1 := fun nq : Nat => conv_sl (w := xf.drewN nq) (show Sl (xf.drewN nq) af cf y from hsf) HNY.out
          have hc2 := fun nq : Nat => conv_sl (w := xf.drewN nq) (show Sl (xf.drewN nq) ab cb y from hsb) HNY.out
          have BF := Lib.hid (BL.out.trans (hbf.mono BL.out.size))
          clear htx hcellf hsf hsb hbf HCW LA WR SL BL
          go_wp2_with fail
          go_quiet (fail)
          have BF2 : Hid (Below x1.heap.size x1 (xf.drewN nq)) := ⟨BF.out.os, BF.out.tape, BF.out.output, BF.out.size, BF.out.block⟩
          go_wp2
          go_ret
          exact ⟨rfl, B1.out.trans (BF2.out.mono B1.out.size)⟩

end Go.Proofs.YtgachdaphdjddaaGreatDoor
