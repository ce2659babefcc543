/-
  The walk of the law FileMany.
-/
import Derived.Test.YtbehmhckpddioaaOpenOps3
import Derived.Deep.CutRange
namespace Go.Proofs.Ytbehmhckpddioaa
open Go.RowKit

def nKeep : List UInt8 := [107, 101, 101, 112]
def bKept : List UInt8 := [107, 101, 112, 116]
def keepF : Fm := ⟨nKeep, bKept, 4, true⟩

theorem Ol3.at {w : World} {ao : Option Addr} {c : Nat} {l : List Op3} (h : Ol3 w ao c l) (hl : l ≠ []) : ∃ b off, ao = some ⟨b, off, none⟩ ∧ b < w.heap.size ∧ ∀ i, i < l.length → Op3At w ⟨b, off + i * 5, none⟩ (l.getD i opNo) := by
  rcases h with ⟨_, _, h⟩ | ⟨A, rfl, _, _, hc⟩
  · exact absurd h hl
  · obtain ⟨b, off, spot⟩ := A
    have h0 := (hc 0 (List.length_pos_iff.2 hl)).2.2.1
    have hs : spot = none := by simpa [Addr.add] using World.cell?_spot h0
    subst hs
    have hc' : ∀ i, i < l.length → Op3At w ⟨b, off + i * 5, none⟩ (l.getD i opNo) := fun i hi => by
      have := hc i hi
      rwa [Addr.add_lit] at this
    exact ⟨b, off, rfl, World.block_lt_of_cell? _ _ (hc' 0 (List.length_pos_iff.2 hl)).2.2.1, hc'⟩

theorem Ol3.len {w : World} {ao : Option Addr} {c : Nat} {l : List Op3} (h : Ol3 w ao c l) : (l.length : Int) ≤ 9223372036854775807 := by
  rcases h with ⟨_, _, rfl⟩ | ⟨A, _, q1, q2, _⟩
  · simp
  · unfold maxLen at q2; omega

theorem Op3At.below {w w' : World} {B b off : Nat} {x : Op3} (h : Op3At w ⟨b, off, none⟩ x) (hb : Below B w w') (hB : b < B) (hw : w.heap.size ≤ B) : Op3At w' ⟨b, off, none⟩ x := by
  obtain ⟨h1, h2, h3, h4, h5, h6, h7⟩ := h
  refine ⟨h1, h2.below hb (fun A hA hl => by have h8 := h2; rw [hA] at h8; have := h8.lt hl; omega), (hb.cell (p := ⟨b, off, none⟩) hB).trans h3, ?_, ?_, ?_, ?_⟩
  · rw [hb.cell (by rw [add_block]; exact hB)]; exact h4
  · rw [hb.cell (by rw [add_block]; exact hB)]; exact h5
  · rw [hb.cell (by rw [add_block]; exact hB)]; exact h6
  · rw [hb.cell (by rw [add_block]; exact hB)]; exact h7

theorem x_cat (x : List UInt8) : (⟨#[120]⟩ : ByteArray) ++ ⟨x.toArray⟩ = ⟨(120 :: x).toArray⟩ := by
  have := ByteArray.mk_append_mk [120] x
  exact this

/-- What a block of an operation says. -/
theorem five_cells {w : World} {b : Nat} {x y z u v : Value} {T : TypeId} (h : w.heap[b]? = some (.cells #[x, y, z, u, v] T (0, 0))) :
    w.cell? ⟨b, 0, none⟩ = some x ∧ w.cell? ⟨b, 1, none⟩ = some y ∧ w.cell? ⟨b, 2, none⟩ = some z ∧ w.cell? ⟨b, 3, none⟩ = some u ∧ w.cell? ⟨b, 4, none⟩ = some v :=
  ⟨by rw [cell_of_row w b 0 _ _ _ h]; rfl, by rw [cell_of_row w b 1 _ _ _ h]; rfl, by rw [cell_of_row w b 2 _ _ _ h]; rfl, by rw [cell_of_row w b 3 _ _ _ h]; rfl, by rw [cell_of_row w b 4 _ _ _ h]; rfl⟩

set_option maxHeartbeats 4000000 in
set_option maxRecDepth 100000 in
theorem fileMany_walk (a0 : Option Addr) (c0 : Nat) (l0 : List Op3) {w : World} (h0 : Ol3 w a0 c0 l0) (n : Int) (wn : (Lit.int .i64 n).wf = true) :
    Calls Try.prog 13 #[.slice a0 l0.length c0, .int .i64 n] w fun e w' => e = .returned (.bool true) ∧ Below w.heap.size w w' := by
  have HB := Lib.hid (bounds_i64 wn)
  have H0 := Lib.hid h0
  have hlen := h0.len
  clear h0 wn
  have kc := fun (wx : World) (C : Array Value) (n c : Nat) => Lib.run_convert_bytes_const (P := Try.prog) wx 30 5 C n c Try.underlying30 Try.underlying5
  go_enter Try.func13, Try.ntmps13
  go_wp2_with fail
  refine (begun3_calls _).mono ?_
  rintro e x1 ⟨rfl, hb1⟩
  have B1 := Lib.hid hb1
  clear hb1
  go_wp2_with fail
  refine (dk_new 5000 _).mono ?_
  rintro e x2 ⟨rfl, hd⟩
  rw [show roomOf 5000 = 5000 from by decide] at hd
  obtain ⟨b, hbb⟩ : ∃ b, b = x1.heap.size := ⟨_, rfl⟩
  rw [← hbb] at hd ⊢
  have D2 := Lib.hid hd
  clear hd hbb
  go_wp2_with fail
  have hrow := Sl.marked x2 #[.int .u8 107, .int .u8 101, .int .u8 112, .int .u8 116] 5 (4, 5) bKept rfl (by decide)
  have C := dk_append_new (n := nKeep) (bs := bKept) D2.out (by decide) (Turn.alloc [] x2 (.cells #[.int .u8 107, .int .u8 101, .int .u8 112, .int .u8 116] 5 (4, 5))) hrow (fun A hA => by cases hA; exact Nat.le_refl _)
  refine C.mono ?_
  rintro e x3 ⟨rfl, hd⟩
  have D3 := Lib.hid (show Dk x1 x3 b 5000 ([] ++ Fm.mk nKeep bKept 0 false :: []) from hd)
  clear hd D2 C hrow
  go_wp2_with fail
  refine (dk_sync D3.out).mono ?_
  rintro e x4 ⟨rfl, hd⟩
  have D4 := Lib.hid (show Dk x1 x4 b 5000 [keepF] from hd)
  clear hd D3
  go_wp2_with fail
  go_loopw [6, 7] (fun dv iv wr => ∃ (k b : Nat) (M : List Fm), k ≤ l0.length ∧ k ≤ 25 ∧ iv = .int .i64 k ∧ dv = .pointer (some ⟨b, 0, none⟩) ∧ Dk x1 wr b 5000 M ∧ keepF ∈ M ∧ M.length ≤ k + 1) (fun _ i _ => l0.length - (intOf i).toNat)
  case atStart => exact ⟨0, b, [keepF], by omega, by omega, rfl, rfl, D4.out, by simp, by simp⟩
  case round =>
    clear D4 kc
    obtain ⟨k, b, M, hk, hk25, rfl, rfl, hd, hkeep, hfew⟩ := hrel
    have Dw := Lib.hid hd
    have HK := Lib.hid hkeep
    have HF := Lib.hid hfew
    clear hd hkeep hfew
    by_cases hgo : k < l0.length ∧ k < 25
    · obtain ⟨hlt, h25⟩ := hgo
      obtain ⟨ob, off, ha0, hob, hop⟩ := H0.out.at (by intro e; rw [e] at hlt; simp at hlt)
      subst ha0
      have hx1 := ((hop k hlt).below B1.out hob (Nat.le_refl _)).below Dw.out.old (by have := B1.out.size; omega) (Nat.le_refl _)
      generalize l0.getD k opNo = op at hx1
      obtain ⟨kd, nn, nm, tt, ba, bc, bl⟩ := op
      obtain ⟨⟨hkd, hnn, hnm, htt⟩, hsl, o0, o1, o2, o3, o4⟩ := hx1
      dsimp only at hkd hnn hnm htt hsl o0 o1 o2 o3 o4
      simp only [Addr.add_lit] at o1 o2 o3 o4
      have HSL := Lib.hid hsl
      obtain ⟨bn, hbn⟩ : ∃ bn, bn = bl.length := ⟨_, rfl⟩
      rw [← hbn] at o4
      have HBN := Lib.hid hbn
      have hd25 : decide ((k : Int) < 25) = true := by simp; omega
      clear hop hsl hbn
      go_upto_region 11 with fail
      go_cut [] from 35 to 44 (fun wx => ∃ xn yn : List UInt8, (xn.length ≤ 6 ∧ xn ≠ nKeep) ∧ (yn.length ≤ 6 ∧ yn ≠ nKeep) ∧ Turn [] wr wx ∧ wx.heap[wr.heap.size]? = some (.cells #[.int .i64 kd, .int .i64 nn, .string ⟨xn.toArray⟩, .string ⟨yn.toArray⟩, .slice ba bn bc] 32 (0, 0)))
      case first =>
        go_region_with (first | (go_at_call 23; refine (cut_its _ 5 _ (by assumption) (by omega)).mono ?_; rintro e wy ⟨x, rfl, hx5, -, rfl⟩; have hxc := x_cat x; obtain ⟨xn, hxn⟩ : ∃ xn, xn = 120 :: x := ⟨_, rfl⟩; rw [← hxn] at hxc; have HXN := Lib.hid (show xn.length ≤ 6 ∧ xn ≠ nKeep by rw [hxn]; exact ⟨by simp; omega, by simp [nKeep]⟩); clear hxn))
        all_goals
          go_wp2_with fail
          go_meet
          exact ⟨_, _, Hid.out (by assumption), Hid.out (by assumption), (Turn.alloc [] wr _).trans (Turn.drew [] _) (by simp), heap_alloc_new wr _⟩
      case rest =>
        obtain ⟨xn, yn, ⟨hxl, hxk⟩, ⟨hyl, hyk⟩, ht, hblk⟩ := hcut
        obtain ⟨p0, p1, p2, p3, p4⟩ := five_cells hblk
        have Dx := Lib.hid (Dw.out.turn ht)
        have SX := Lib.hid (HSL.out.turn ht (by simp))
        have KX := Lib.hid (show keepF.name ≠ xn from fun e => hxk e.symm)
        have KY := Lib.hid (show keepF.name ≠ yn from fun e => hyk e.symm)
        clear Dw HSL hxk hyk ht hblk o0 o1 o2 o3 o4
        rcases (by omega : kd = 0 ∨ kd = 1 ∨ kd = 2 ∨ kd = 3 ∨ (kd ≠ 0 ∧ kd ≠ 1 ∧ kd ≠ 2 ∧ kd ≠ 3)) with rfl | rfl | rfl | rfl | hne
        · go_wp2_with fail
          go_region_with (first
            | (go_at_call 27; refine (short_fresh ba bc 50 bn bl _ (SX.out.turn (Turn.drew [] _) (by simp)) HBN.out (by omega)).mono ?_; rintro e wy ⟨aq, cq, bx, rfl, -, hbx, hsb, hbb, hab⟩; have SB := Lib.hid hsb; have AB := Lib.hid hab; have TB : Turn [] wc wy := (Turn.drew [] _).trans (Turn.of_below hbb []) (by simp); have TBH := Lib.hid TB; have p2y := TB.cell p2 (by simp); have p4y := TB.cell p4 (by simp); clear hsb hbb hab TB)
            | (go_at_call 21; refine (dk_append_new Dx.out (by omega) TBH.out SB.out AB.out).mono ?_; rintro e wz ⟨rfl, hd⟩; have DZ := Lib.hid hd; clear hd))
          all_goals
            go_wp2
            go_roundw
            case rel => exact ⟨k + 1, b, _, by omega, by omega, by go_num, rfl, DZ.out, appM_mem _ _ HK.out KX.out, Nat.le_trans (appM_length _ _ _ _) (by have := HF.out; omega)⟩
            case measure => simp [intOf]; omega
        · go_wp2_with fail
          refine (dk_sync_fn Dx.out (by omega)).mono ?_
          rintro e wz ⟨rfl, hd⟩
          have DZ := Lib.hid hd
          clear hd
          go_wp2
          go_roundw
          case rel => exact ⟨k + 1, b, _, by omega, by omega, by go_num, rfl, DZ.out, mUp_mem _ HK.out KX.out, by have := HF.out; unfold synM; rw [mUp_length]; omega⟩
          case measure => simp [intOf]; omega
        · go_wp2_with fail
          refine (dk_rename_fn Dx.out (by omega) (by omega)).mono ?_
          rintro e wz ⟨rfl, hd⟩
          have DZ := Lib.hid hd
          clear hd
          go_wp2
          go_roundw
          case rel => exact ⟨k + 1, b, _, by omega, by omega, by go_num, rfl, DZ.out, renM_mem HK.out KX.out KY.out, Nat.le_trans (renM_length _ _ _) (by have := HF.out; omega)⟩
          case measure => simp [intOf]; omega
        · go_wp2_with fail
          refine (dk_delete_fn Dx.out (by omega)).mono ?_
          rintro e wz ⟨rfl, hd⟩
          have DZ := Lib.hid hd
          clear hd
          go_wp2
          go_roundw
          case rel => exact ⟨k + 1, b, _, by omega, by omega, by go_num, rfl, DZ.out, mDel_mem HK.out KX.out, Nat.le_trans (mDel_length _ _) (by have := HF.out; omega)⟩
          case measure => simp [intOf]; omega
        · obtain ⟨n0, n1, n2, n3⟩ := hne
          have e0 : (kd == 0) = false := beq_eq_false_iff_ne.2 n0
          have e1 : (kd == 1) = false := beq_eq_false_iff_ne.2 n1
          have e2 : (kd == 2) = false := beq_eq_false_iff_ne.2 n2
          have e3 : (kd == 3) = false := beq_eq_false_iff_ne.2 n3
          go_wp2_with fail
          refine (dk_fall nn hnn Dx.out (by have := HF.out; omega)).mono ?_
          rintro e wz ⟨bb, rfl, -, hd, -⟩
          have DZ := Lib.hid hd
          clear hd
          go_wp2
          go_roundw
          case rel => exact ⟨k + 1, bb, _, by omega, by omega, by go_num, rfl, DZ.out, mFall_mem HK.out rfl rfl, Nat.le_trans (mFall_length _ _) (by have := HF.out; omega)⟩
          case measure => simp [intOf]; omega
    · have hfin : ¬ (k < l0.length) ∨ (k < l0.length ∧ ¬ (k < 25)) := by omega
      obtain ⟨A, B, hM⟩ := List.append_of_mem HK.out
      have hM2 := mFall_mem (n := n) HK.out rfl rfl
      obtain ⟨A', B', hM'⟩ := List.append_of_mem hM2
      have HM := Lib.hid hM
      have HM' := Lib.hid hM'
      clear hM hM' hM2
      rcases hfin with hf | ⟨hf, hf25⟩
      · have hdc : decide ((k : Int) < (l0.length : Int)) = false := by simp; omega
        go_wp2_with fail
        refine (dk_fall n HB.out Dw.out (by have := HF.out; omega)).mono ?_
        rintro e y1 ⟨bb, rfl, hd1, hd2, -⟩
        rw [HM.out] at hd1
        rw [HM'.out] at hd2
        have E1 := Lib.hid hd1
        have E2 := Lib.hid hd2
        clear hd1 hd2
        go_wp2_with fail
        refine (dk_read E2.out).mono ?_
        rintro e y2 ⟨aq, cq, rfl, hs, -, hb⟩
        have E3 := Lib.hid (E1.out.below hb)
        have q1 := conv_sl (l := [107, 101, 112, 116]) hs (n := keepF.b.length) rfl
        clear hs hb
        go_wp2_with fail
        refine (dk_sure E3.out).mono ?_
        rintro e w' ⟨rfl, rfl⟩
        go_wp2
        go_ret
        exact ⟨rfl, B1.out.trans (E3.out.old.mono B1.out.size)⟩
      · have hdc : decide ((k : Int) < 25) = false := by simp; omega
        go_wp2_with fail
        refine (dk_fall n HB.out Dw.out (by have := HF.out; omega)).mono ?_
        rintro e y1 ⟨bb, rfl, hd1, hd2, -⟩
        rw [HM.out] at hd1
        rw [HM'.out] at hd2
        have E1 := Lib.hid hd1
        have E2 := Lib.hid hd2
        clear hd1 hd2
        go_wp2_with fail
        refine (dk_read E2.out).mono ?_
        rintro e y2 ⟨aq, cq, rfl, hs, -, hb⟩
        have E3 := Lib.hid (E1.out.below hb)
        have q1 := conv_sl (l := [107, 101, 112, 116]) hs (n := keepF.b.length) rfl
        clear hs hb
        go_wp2_with fail
        refine (dk_sure E3.out).mono ?_
        rintro e w' ⟨rfl, rfl⟩
        go_wp2
        go_ret
        exact ⟨rfl, B1.out.trans (E3.out.old.mono B1.out.size)⟩

end Go.Proofs.Ytbehmhckpddioaa
