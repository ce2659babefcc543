/-
  The walk of the law ByteEdges.
-/
import Derived.Test.YtheolfmalcckmaaByteAllWalk
import Derived.Test.YtheolfmalcckmaaSumPartsWalk
import Derived.Deep.AppendLies
import Derived.Deep.CutRange
namespace Go.Proofs.Ytheolfmalcckmaa
open Go.RowKit Go.ChangeShapes Go.WideShapes Go.ChangeAt Go.Deep

theorem fill_start (n : Nat) (c : UInt8) : List.replicate n (Value.int .u8 0) = u8s (List.replicate 0 c ++ List.replicate (n - 0) 0) := by
  simp [u8s]

theorem fill_step (n k : Nat) (c : UInt8) (h : k < n) : (u8s (List.replicate k c ++ List.replicate (n - k) 0)).set k (.int .u8 (c.toNat : Int)) = u8s (List.replicate (k + 1) c ++ List.replicate (n - (k + 1)) 0) := by
  unfold u8s
  rw [← List.map_set (f := fun b : UInt8 => Value.int .u8 (b.toNat : Int))]
  congr 1
  obtain ⟨m, rfl⟩ : ∃ m, n = k + 1 + m := ⟨n - (k + 1), by omega⟩
  rw [show k + 1 + m - k = m + 1 by omega, show k + 1 + m - (k + 1) = m by omega, List.set_append_right _ _ (by simp)]
  simp [List.replicate_succ]
  rw [← List.cons_append, ← List.replicate_succ, List.replicate_succ', List.append_assoc]
  rfl

theorem own_form {B : Nat} {w : World} {v : Value} {l : List UInt8} (h : Own B w v l) (hl : 0 < l.length) : ∃ g c, v = .slice (some ⟨g, 0, none⟩) l.length c ∧ B ≤ g ∧ g < w.heap.size ∧ Sl w (some ⟨g, 0, none⟩) c l := by
  obtain ⟨g, c, hv, h1, h2⟩ := World.ownsRow.form h hl
  refine ⟨g, c, hv, h1, h2, ?_⟩
  obtain ⟨a, cc, e1, e2, _⟩ := Sl.of_owns (show w.ownsRow B 5 1 v l.length (u8s l) from h)
  rw [hv] at e1
  injection e1 with e3 e4 e5
  subst e3 e5
  exact e2

theorem own_sl {B g c : Nat} {w : World} {l : List UInt8} (h : Own B w (.slice (some ⟨g, 0, none⟩) l.length c) l) : Sl w (some ⟨g, 0, none⟩) c l := by
  obtain ⟨a, cc, e1, e2, _⟩ := Sl.of_owns (show w.ownsRow B 5 1 _ l.length (u8s l) from h)
  injection e1 with e3 e4 e5
  subst e3 e5
  exact e2

theorem text_front2 (s : ByteArray) : textT (textB s) false = s.data.toList.take (s.size % 65536) ∧ textA (textB s) false = [] ∧ textC (textB s) false = true := by
  unfold textT textA textC textB
  obtain ⟨h1, h2, h3⟩ := taken_front (smallB ((s.size % 65536 : Nat) : Int)) (s.data.toList.take (s.size % 65536)) 2 rfl
  rw [h1, h2, h3, leN_small]
  have e : (((s.size % 65536 : Nat) : Int) % 65536).toNat = s.size % 65536 := by omega
  rw [e]
  have hl : s.data.toList.length = s.size := by simp
  have ht : (s.data.toList.take (s.size % 65536)).length = s.size % 65536 := by
    rw [List.length_take, hl]
    exact Nat.min_eq_left (Nat.mod_le _ _)
  obtain ⟨h4, h5, h6⟩ := taken_front (s.data.toList.take (s.size % 65536)) [] (s.size % 65536) ht
  rw [List.append_nil] at h4 h5 h6
  exact ⟨h4, h5, h6⟩

theorem step_append_u8 {ops : Array Oper} {o : Oper} {a : Act} {w : World} {K : Act → World → Prop} {Q : Exit → Act → World → Prop} {E : Prop} (hgd : o.guard = none) (s x : Operand)
    (ho : o.op = .call { callee := .builtin .append, args := #[s, x], argTypes := #[25, 25] })
    (base g0 c0 : Nat) (l : List UInt8) (hs : a.eval s = .slice (some ⟨g0, 0, none⟩) l.length c0) (hown : Own base w (.slice (some ⟨g0, 0, none⟩) l.length c0) l)
    (A : Addr) (c : Nat) (l2 : List UInt8) (hx : a.eval x = .slice (some A) l2.length c) (hsl : Sl w (some A) c l2) (hm : 0 < l2.length) (hb : l.length + l2.length ≤ 1000000) (hbase : base ≤ w.heap.size)
    (h : ∀ g cap w', Own base w' (.slice (some ⟨g, 0, none⟩) (l ++ l2).length cap) (l ++ l2) → w.grownBy w' (some g0) → base ≤ g → g < w'.heap.size → K (a.put o.dst (.slice (some ⟨g, 0, none⟩) (l.length + l2.length) cap)) w') :
    if Region.wanted o (yielded ops a.tmps) = true then Oper.wp Try.prog o a w K Q else E := by
  obtain ⟨i0, hi, hz0, hz1, hz2⟩ := info_parts Try.u8row
  refine step_append_lies w hgd s x 25 ho base 5 i0 (.int .u8 0) 1 1 Try.underlying25 hi hz0 hz1 hz2 rfl (by decide) _ l.length (u8s l) hs hown A l2.length c (u8s l2) hx (by rw [u8s_length]; omega)
    (Sl.cells hsl) (u8s_oneCell l2) hm (by unfold maxLen; omega) (by omega) hbase _ rfl ?_
  intro g cap w' hown' hg hat hlt
  refine h g cap w' ?_ hg ?_ hlt
  · unfold Own
    rw [List.length_append, u8s_append]
    exact hown'
  · rcases hat with h | h
    · have h' : g0 = g := by simpa [Value.ownBlock] using h
      subst h'
      exact (hown.lt g0 rfl).1
    · omega

set_option maxHeartbeats 6000000 in
set_option maxRecDepth 100000 in
theorem byteEdges_nat (x : Int) (hx : -9223372036854775808 ≤ x ∧ x ≤ 9223372036854775807) (n : Nat) (hn : n ≤ 140000) (c : UInt8) (w : World) :
    Calls Try.prog 5 #[.int .i64 x, .int .i64 (n : Int), .int .u8 (c.toNat : Int)] w fun e w' => e = .returned (.bool true) ∧ Below w.heap.size w w' := by
  obtain ⟨i0, hi, hz0, hz1, hz2⟩ := info_parts Try.u8row
  have hc := c.toNat_lt
  go_enter Try.func5, Try.ntmps5
  go_wp2_with fail
  refine (begun_calls _).mono ?_
  rintro e w1 ⟨rfl, hb1⟩
  have B1 := Lib.hid hb1
  have hz := hb1.size
  clear hb1
  have r1 : (n : Int) ≤ 140000 := by omega
  go_wp2_with (at_make; refine wpList_make_full _ rfl _ _ 25 rfl w1.heap.size 5 i0 (.int .u8 0) 1 Try.underlying25 hi hz0 hz1 .i64 .i64 _ _ n rfl rfl rfl rfl (by rw [hz2]; omega) (by unfold maxLen; omega) (Nat.le_refl _) ?_)
  intro w3 hown3 hg3
  have N3 := Lib.hid ((Below.refl w1.heap.size w1).grown hg3 (Nat.le_refl _) (by intro k hk; cases hk))
  have O3 : Hid (w3.ownsRow w1.heap.size 5 1 (.slice (some ⟨w1.heap.size, 0, none⟩) n n) n (u8s (List.replicate 0 c ++ List.replicate (n - 0) 0))) := by
    rw [← fill_start, ← toList_madeCells_one (.int .u8 0) n]
    exact hown3
  clear hown3 hg3 hi hz0 hz1 hz2
  generalize hq : w1.heap.size = q at *
  have HQ := Lib.hid hq
  clear hq
  go_wp2_with fail
  go_loopw [9, 26] (fun _ i wr => ∃ k : Nat, k ≤ n ∧ i = .int .i64 k ∧ wr.ownsRow q 5 1 (.slice (some ⟨q, 0, none⟩) n n) n (u8s (List.replicate k c ++ List.replicate (n - k) 0)) ∧ Below q w1 wr) (fun _ i _ => n - (intOf i).toNat)
  case atStart => exact ⟨0, by omega, rfl, O3.out, N3.out⟩
  case round =>
    obtain ⟨k, hk, rfl, hown, hbel⟩ := hrel
    have HO := Lib.hid hown
    have HB := Lib.hid hbel
    clear hown hbel O3 N3
    by_cases hlt : k < n
    · have r2 : (k : Int) < (n : Int) := by omega
      have hcell : ∃ u, wr.cell? ⟨q, k, none⟩ = some u := by
        rw [HO.out.cellAt k (by omega)]
        have hl : k < (u8s (List.replicate k c ++ List.replicate (n - k) 0)).length := by simp [u8s]; omega
        exact ⟨_, List.getElem?_eq_getElem hl⟩
      obtain ⟨u, hcell⟩ := hcell
      have hfz := HO.out.frozenAt k
      have O4 : Hid ((wr.setCell ⟨q, k, none⟩ (.int .u8 (c.toNat : Int))).ownsRow q 5 1 (.slice (some ⟨q, 0, none⟩) n n) n (u8s (List.replicate (k + 1) c ++ List.replicate (n - (k + 1)) 0))) := Lib.hid (by rw [← fill_step n k c hlt]; exact (HO.out.stored k _).1)
      have B4 := Lib.hid (HB.out.setCell (p := ⟨q, k, none⟩) (Nat.le_refl _) (.int .u8 (c.toNat : Int)))
      go_wp2
      go_roundw
      case rel => exact ⟨k + 1, by omega, by go_num, O4.out, B4.out⟩
      case measure => simp [intOf]; omega
    · obtain rfl : k = n := by omega
      have hown2 := HO.out
      rw [Nat.sub_self, List.replicate_zero, List.append_nil] at hown2
      have hs : Sl wr (some ⟨q, 0, none⟩) k (List.replicate k c) := by
        obtain ⟨a, cc, h1, h2, _⟩ := owns_named (l := List.replicate k c) (by exact hown2)
        injection h1 with e1 e2 e3
        subst e1 e3
        exact h2
      have SB := Lib.hid hs
      clear hown2 hs HO
      obtain ⟨L, hL⟩ : ∃ L, L = List.replicate k c := ⟨_, rfl⟩
      have hLl : L.length = k := by rw [hL]; simp
      rw [← hL] at SB
      clear hL
      have hend := Lib.hid (B1.out.trans (HB.out.mono (by have := HQ.out; omega)))
      obtain ⟨w2, rfl⟩ : ∃ w2 : World, w2 = wr := ⟨_, rfl⟩
      go_wp2_with fail
      have P4 := Lib.hid (OutIs.new w2 27)
      have S4 : Hid (Sl (w2.alloc (.cells #[.slice none 0 0] 27)) (some ⟨q, 0, none⟩) k L) := Lib.hid (SB.out.belowAll (new_below w2 _))
      have D4 : Hid (Below w.heap.size w (w2.alloc (.cells #[.slice none 0 0] 27))) := Lib.hid (hend.out.trans ((new_below w2 _).mono hend.out.size))
      have hwr : w.heap.size ≤ w2.heap.size := hend.out.size
      have hw4 : w2.heap.size + 1 ≤ (w2.alloc (.cells #[.slice none 0 0] 27)).heap.size := by simp
      clear SB hend HB
      generalize w2.alloc (.cells #[.slice none 0 0] 27) = w4 at *
      generalize w2.heap.size = r at *
      refine (long_out r 0 [] x _ P4.out (by simp)).mono ?_
      rintro e w5 ⟨rfl, ho5, hon5⟩
      rw [List.nil_append] at ho5
      obtain ⟨ap, cp, hp, _⟩ := P4.out
      have S5 := Lib.hid (Sl.only S4.out hon5.toOnly hp (by intro n h; cases h))
      have D5 := Lib.hid (hon5.below (B := w.heap.size) hwr D4.out.size D4.out)
      have P5 := Lib.hid ho5
      clear hp ho5 hon5 S4 D4 P4 hw4
      have hl8 : (longB x).length = 8 := rfl
      go_wp2_with fail
      refine (small_out r 0 (longB x) x _ P5.out (by omega)).mono ?_
      rintro e w6 ⟨rfl, ho6, hon6⟩
      obtain ⟨ap, cp, hp, _⟩ := P5.out
      have S6 := Lib.hid (Sl.only S5.out hon6.toOnly hp (by intro n h; cases h))
      have D6 := Lib.hid (hon6.below (B := w.heap.size) hwr D5.out.size D5.out)
      have P6 := Lib.hid ho6
      clear hp ho6 hon6 S5 D5 P5
      have t6 := text_back S6.out
      rw [hLl] at t6
      obtain ⟨T, hT⟩ : ∃ T : ByteArray, T = ⟨L.toArray⟩ := ⟨_, rfl⟩
      have hTs : T.size = k := by rw [hT, ← hLl]; simp [ByteArray.size]
      rw [← hT] at t6
      have HT := Lib.hid hT
      clear hT
      go_wp2_with fail
      refine (text_out r 0 (longB x ++ smallB x) T _ P6.out (by unfold maxLen; omega) (by rw [List.length_append, hl8]; show 8 + 2 ≤ _; omega)).mono ?_
      rintro e w7 ⟨rfl, ho7, hon7⟩
      obtain ⟨ap, cp, hp, _⟩ := P6.out
      have S7 := Lib.hid (Sl.only S6.out hon7.toOnly hp (by intro n h; cases h))
      have D7 := Lib.hid (hon7.below (B := w.heap.size) hwr D6.out.size D6.out)
      have P7 := Lib.hid ho7
      clear hp ho7 hon7 S6 D6 P6 t6
      have TB : Hid (∀ wx, Below w7.heap.size w7 wx → (convert 25 9 (.slice (some ⟨q, 0, none⟩) k k)).run Try.prog wx = .ok (.string T) wx) := Lib.hid (fun wx hb => by
        have h := text_back (S7.out.belowAll hb)
        rw [hLl] at h
        rw [HT.out]
        exact h)
      have hTM : (textB T).length ≤ 140002 ∧ 0 < (textB T).length := by
        unfold textB
        rw [List.length_append, List.length_take]
        have h1 : (smallB ((T.size % 65536 : Nat) : Int)).length = 2 := rfl
        have h2 := Nat.mod_le T.size 65536
        rw [h1]
        omega
      have C39 : Hid (∀ wx : World, Calls Try.prog 39 #[.int .i64 x] wx fun e w' => ∃ g c, e = .returned (.slice (some ⟨g, 0, none⟩) (longB x).length c) ∧ Own wx.heap.size w' (.slice (some ⟨g, 0, none⟩) (longB x).length c) (longB x) ∧ g < w'.heap.size ∧ Below wx.heap.size wx w') := Lib.hid (fun wx => (refLong_calls x wx).mono fun e w' ⟨v, h1, h2, h3⟩ => by
        obtain ⟨g, c, hv, _, hg, _⟩ := own_form h2 (by rw [hl8]; omega)
        subst hv
        exact ⟨g, c, h1, h2, hg, h3⟩)
      have C40 : Hid (∀ wx : World, Calls Try.prog 40 #[.int .i64 x] wx fun e w' => ∃ g, e = .returned (.slice (some ⟨g, 0, none⟩) (smallB x).length 2) ∧ Sl w' (some ⟨g, 0, none⟩) 2 (smallB x) ∧ Below wx.heap.size wx w') := Lib.hid (fun wx => (refSmall_calls x wx hx).mono fun e w' ⟨h1, h2⟩ => by
        subst h2
        exact ⟨_, h1, Sl.made wx _ 5 (smallB x) (smallB_cells x).symm (by simp [smallB, maxLen]), new_below _ _⟩)
      have C41 : Hid (∀ wx : World, Calls Try.prog 41 #[.string T] wx fun e w' => ∃ g c, e = .returned (.slice (some ⟨g, 0, none⟩) (textB T).length c) ∧ Sl w' (some ⟨g, 0, none⟩) c (textB T) ∧ wx.heap.size ≤ g ∧ Below wx.heap.size wx w') := Lib.hid (fun wx => (refText_calls T wx (by omega)).mono fun e w' ⟨v, h1, h2, h3⟩ => by
        obtain ⟨g, c, hv, hg, _, hs⟩ := own_form h2 hTM.2
        subst hv
        exact ⟨g, c, h1, hs, hg, h3⟩)
      have hsm : (smallB x).length = 2 := rfl
      obtain ⟨LB, hLB⟩ : ∃ LB, LB = longB x := ⟨_, rfl⟩
      obtain ⟨SM, hSM⟩ : ∃ SM, SM = smallB x := ⟨_, rfl⟩
      obtain ⟨M, hM⟩ : ∃ M, M = textB T := ⟨_, rfl⟩
      rw [← hLB] at C39 P7 hl8
      rw [← hSM] at C40 P7 hsm
      rw [← hM] at C41 P7 hTM
      have HLB := Lib.hid hLB
      have HSM := Lib.hid hSM
      have HM := Lib.hid hM
      clear hLB hSM hM
      obtain ⟨W, hW⟩ : ∃ W, W = LB ++ SM ++ M := ⟨_, rfl⟩
      have HWl : Hid (W.length = 10 + M.length) := Lib.hid (by rw [hW, List.length_append, List.length_append]; omega)
      rw [← hW] at P7
      have HW := Lib.hid hW
      clear hW
      have t0 := TB.out w7.drew ⟨rfl, rfl, rfl, Nat.le_refl _, fun _ _ => rfl⟩
      go_upto_region 16 with fail
      go_cut [11] from 46 to 54 (fun v wx => ∃ a c, v = .slice a W.length c ∧ Sl wx a c W ∧ Below w7.heap.size w7 wx)
      case first =>
        go_region_law (first
          | (go_simp; go_at_call 39; refine (C39.out _).mono ?_; rintro e wa ⟨gA, cA, rfl, hoa, hga, hba⟩; have OA : Hid (Own w7.heap.size wa _ LB) := Lib.hid hoa; have DA : Hid (Below w7.heap.size w7 wa) := Lib.hid ⟨hba.os, hba.tape, hba.output, hba.size, hba.block⟩; have hta := TB.out wa DA.out; clear hoa hba)
          | (go_simp; go_at_call 40; refine (C40.out _).mono ?_; rintro e wb ⟨gB, rfl, hsb, hbb⟩; have OB := Lib.hid (OA.out.below hbb); have SB := Lib.hid hsb; have DB : Hid (Below w7.heap.size w7 wb) := Lib.hid (DA.out.trans (hbb.mono DA.out.size)); have htb := TB.out wb DB.out; have hgb := Nat.lt_of_lt_of_le hga hbb.size; clear hsb hbb)
          | (refine step_append_u8 rfl (.tmp 47) (.tmp 49) rfl w7.heap.size gA cA LB (by simp [Act.eval, hl8]) OB.out _ 2 SM (by simp [Act.eval, hsm]) SB.out (by omega) (by omega) DB.out.size ?_; intro g1 c1 wc ho1 hg1 hl1 hl2; have OC := Lib.hid ho1; have DC : Hid (Below w7.heap.size w7 wc) := Lib.hid (DB.out.grown hg1 DB.out.size (by intro j hj; cases hj; exact (OB.out.lt gA rfl).1)); have htc := TB.out wc DC.out; clear ho1 hg1)
          | (go_simp; go_at_call 41; refine (C41.out _).mono ?_; rintro e wd ⟨gT, cT, rfl, hst, hgt, hbt⟩; have OD := Lib.hid (OC.out.below hbt); have ST := Lib.hid hst; have DD : Hid (Below w7.heap.size w7 wd) := Lib.hid (DC.out.trans (hbt.mono DC.out.size)); have htd := TB.out wd DD.out; clear hst hbt)
          | (refine step_append_u8 rfl (.tmp 50) (.tmp 53) rfl w7.heap.size g1 c1 (LB ++ SM) (by simp [Act.eval, hl8, hsm]) OD.out _ cT M (by simp [Act.eval]) ST.out (by omega) (by rw [List.length_append]; omega) DD.out.size ?_; intro g2 c2 we ho2 hg2 hl3 hl4; have OE := Lib.hid ho2; have DE : Hid (Below w7.heap.size w7 we) := Lib.hid (DD.out.grown hg2 DD.out.size (by intro j hj; cases hj; exact (OD.out.lt g1 rfl).1)); clear ho2 hg2))
        all_goals
          go_wp2_with fail
          go_meet
          exact ⟨some ⟨g2, 0, none⟩, c2, by rw [HWl.out], by rw [HW.out]; exact own_sl OE.out, DE.out⟩
      case rest =>
        obtain ⟨aw, cw, rfl, hsw, hdw⟩ := hcut
        have P8 := P7.out.alloc hdw
        have D8 := Lib.hid (D7.out.trans (hdw.mono D7.out.size))
        have SW := Lib.hid hsw
        clear t0 C39 C40 C41 TB S7 P7 hsw hdw D7 hTM
        obtain ⟨ax, cx, hpx, hsx, _⟩ := P8
        have SX := Lib.hid hsx
        have hx8 := SX.out.le
        clear hsx
        have CL : Hid (∀ ib wx, InIs wx ib W false → Calls Try.prog 31 #[.pointer (some ⟨ib, 0, none⟩)] wx fun e w' => e = .returned (.int .i64 x) ∧ InIs w' ib (SM ++ M) false ∧ wx.grownBy w' (some ib)) := Lib.hid (fun ib wx h => by
          obtain ⟨h1, h2, h3⟩ := taken_front LB (SM ++ M) 8 hl8
          rw [← List.append_assoc, ← HW.out] at h1 h2 h3
          have c := long_in ib W false wx h
          rw [h1, h2, h3, HLB.out, longN_long x hx] at c
          exact c)
        have CS : Hid (∀ ib wx, InIs wx ib (SM ++ M) false → Calls Try.prog 29 #[.pointer (some ⟨ib, 0, none⟩)] wx fun e w' => e = .returned (.int .i64 (x % 65536)) ∧ InIs w' ib M false ∧ wx.grownBy w' (some ib)) := Lib.hid (fun ib wx h => by
          obtain ⟨h1, h2, h3⟩ := taken_front SM M 2 hsm
          have c := small_in ib (SM ++ M) false wx h
          rw [h1, h2, h3, HSM.out, leN_small, Int.toNat_of_nonneg (by omega)] at c
          exact c)
        have CT : Hid (∀ ib wx, InIs wx ib M false → Calls Try.prog 33 #[.pointer (some ⟨ib, 0, none⟩)] wx fun e w' => (∃ Y : ByteArray, e = .returned (.string Y) ∧ (Y.size : Int) = (k : Int) % 65536) ∧ InIs w' ib [] false ∧ wx.grownBy w' (some ib)) := Lib.hid (fun ib wx h => by
          obtain ⟨h1, h2, h3⟩ := text_front2 T
          have c := text_in ib M false wx h
          rw [HM.out, h1, h2, h3] at c
          refine c.mono fun e w' ⟨e1, e2, e3⟩ => ⟨⟨_, e1, ?_⟩, e2, e3⟩
          have hl : T.data.toList.length = T.size := by simp
          have hy : (ByteArray.mk (T.data.toList.take (T.size % 65536)).toArray).size = (T.data.toList.take (T.size % 65536)).length := size_mk _
          have h1 := Nat.mod_le T.size 65536
          rw [hy, List.length_take, hl, Nat.min_eq_left h1, hTs]
          omega)
        have m1 := i64_and65535 x
        have m2 := i64_and65535 (k : Int)
        have CR := Lib.hid (read_calls ax cx W _ SX.out)
        go_wp2_with fail
        refine CR.out.mono ?_
        rintro e w9 ⟨rfl, hi9, hb9⟩
        generalize hib : wc.heap.size = ib at *
        have I9 : Hid (InIs w9.drew ib W false) := Lib.hid hi9
        have hlt9 : ib < w9.heap.size := hi9.lt
        have hwib : w.heap.size ≤ ib := by have := D8.out.size; omega
        have D9 : Hid (Below w.heap.size w w9) := Lib.hid (D8.out.trans (hb9.mono hwib))
        have D9d : Hid (Below w.heap.size w w9.drew) := Lib.hid ⟨D9.out.os, D9.out.tape, D9.out.output, D9.out.size, D9.out.block⟩
        have hrl : r < ib := by rw [← hib]; exact World.block_lt_of_cell? _ _ hpx
        have hpx9 : w9.drew.cell? ⟨r, 0, none⟩ = some (.slice ax W.length cx) := (hb9.cell (p := ⟨r, 0, none⟩) hrl).trans hpx
        have SX9 : Hid (Sl w9.drew ax cx W) := Lib.hid (show Sl w9 ax cx W from SX.out.belowAll (by rw [hib]; exact hb9))
        have SW9 : Hid (Sl w9.drew aw cw W) := Lib.hid (show Sl w9 aw cw W from SW.out.belowAll (by rw [hib]; exact hb9))
        have t1 := text_back SX9.out
        have t2 := text_back SW9.out
        clear hib hi9 hb9 hpx SX SW SX9 SW9 CR
        go_wp2_with fail
        go_region_law (first
          | (go_simp; go_at_call 31; refine (CL.out _ _ I9.out).mono ?_; rintro e wl ⟨rfl, hil, hgl⟩; have IL := Lib.hid hil; have hltl : ib < wl.heap.size := hil.lt; have DL := Lib.hid (D9d.out.grown hgl D9d.out.size (by intro j hj; cases hj; exact hwib)); clear hil hgl)
          | (go_simp; go_at_call 29; refine (CS.out _ _ IL.out).mono ?_; rintro e wm ⟨rfl, him, hgm⟩; have IM := Lib.hid him; have DM := Lib.hid (DL.out.grown hgm DL.out.size (by intro j hj; cases hj; exact hwib)); clear him hgm)
          | (go_simp; go_at_call 33; refine (CT.out _ _ IM.out).mono ?_; rintro e wt ⟨⟨Y, rfl, hY⟩, hit, hgt⟩; have IT := Lib.hid hit; have DT := Lib.hid (DM.out.grown hgt DM.out.size (by intro j hj; cases hj; exact hwib)); clear hit hgt)
          | (go_simp; go_at_call 25; refine (end_calls ib [] false _ IT.out).mono ?_; rintro e w' ⟨rfl, rfl⟩))
        all_goals (go_wp2; go_ret; exact ⟨rfl, DT.out⟩)

set_option maxHeartbeats 1000000 in
theorem byteEdges_out (x n c : Int) (h : n < 0 ∨ 140000 < n) (w : World) :
    Calls Try.prog 5 #[.int .i64 x, .int .i64 n, .int .u8 c] w fun e w' => e = .returned (.bool true) ∧ Below w.heap.size w w' := by
  by_cases hneg : n < 0
  · clear h
    go_enter Try.func5, Try.ntmps5
    go_wp2_with fail
    refine (begun_calls _).mono ?_
    rintro e w1 ⟨rfl, hb1⟩
    have B1 := Lib.hid hb1
    clear hb1
    go_wp2
    go_ret
    exact ⟨rfl, B1.out⟩
  · have hgt : 140000 < n := by omega
    have hge : ¬ n < 0 := hneg
    clear h hneg
    go_enter Try.func5, Try.ntmps5
    go_wp2_with fail
    refine (begun_calls _).mono ?_
    rintro e w1 ⟨rfl, hb1⟩
    have B1 := Lib.hid hb1
    clear hb1
    go_wp2
    go_ret
    exact ⟨rfl, B1.out⟩

theorem byteEdges_walk (w : World) (x : Int) (hx : (Lit.int .i64 x).wf = true) (n : Int) (_hn : (Lit.int .i64 n).wf = true) (c : Int) (hc : (Lit.int .u8 c).wf = true) :
    Calls Try.prog 5 #[.int .i64 x, .int .i64 n, .int .u8 c] w fun e w' => e = .returned (.bool true) ∧ Below w.heap.size w w' := by
  by_cases h : n < 0 ∨ 140000 < n
  · exact byteEdges_out x n c h w
  · obtain ⟨m, rfl⟩ := Int.eq_ofNat_of_zero_le (show 0 ≤ n by omega)
    have hcb := bounds_u8 hc
    have e := u8_ofNat (n := c) hcb.1 (by omega)
    rw [← e]
    exact byteEdges_nat x (bounds_i64 hx) m (by omega) (UInt8.ofNat c.toNat) w

end Go.Proofs.Ytheolfmalcckmaa
