/-
  The walk of the law BagEqual.
-/
import Derived.Test.YtikbldnekehodaaBagE
namespace Go.Proofs.Ytikbldnekehodaa
open Go.RowKit

set_option maxHeartbeats 4000000 in
set_option maxRecDepth 100000 in
theorem bagEqual_walk {w : World} (a0 : Option Addr) (c0 : Nat) (l0 : List Int) (w0 : Il w a0 c0 l0) (HB : ∀ w, Calls Try.prog 12 #[] w fun e w' => e = .returned (.bool true) ∧ Below w.heap.size w w') :
    Calls Try.prog 9 #[.slice a0 l0.length c0] w fun e w' => e = .returned (.bool true) ∧ Below w.heap.size w w' := by
  have hlen := w0.len
  have H0 := Lib.hid w0
  have CB := Lib.hid (HB w)
  clear w0 HB
  obtain ⟨n, hn⟩ : ∃ n, n = l0.length := ⟨_, rfl⟩
  have HN := Lib.hid hn
  rw [← hn] at hlen ⊢
  clear hn
  go_enter Try.func9, Try.ntmps9
  go_wp2_with fail
  refine CB.out.mono ?_
  rintro e x1 ⟨rfl, hb1⟩
  have B1 := Lib.hid hb1
  clear hb1 CB
  go_wp2_with fail
  refine (newI _ _ x1).mono ?_
  rintro e x2 ⟨rfl, h2, t2⟩
  obtain ⟨b, hbb⟩ : ∃ b, b = x1.heap.size := ⟨_, rfl⟩
  rw [← hbb] at h2 ⊢
  obtain ⟨cb, hcb⟩ : ∃ cb, cb = x2.heap.size := ⟨_, rfl⟩
  have T3 : Turn [] x2 (x2.alloc (.cells #[.int .i64 0, .int .i64 0, .int .i64 0, .int .i64 0, .int .i64 0] 54)) := Turn.alloc [] x2 _
  have hbs : b < x2.heap.size := lt_of_heap h2.head
  have E3 : Hid (Eq5 w (x2.alloc (.cells #[.int .i64 0, .int .i64 0, .int .i64 0, .int .i64 0, .int .i64 0] 54)) b cb 0 [] [0, 0, 0, 0, 0] (.slice none 0 0)) := Lib.hid
    { lb := (LB.new h2 (by rw [hbb]; exact B1.out.size)).quiet T3
      arr := by
        rw [hcb]
        show (x2.heap.push _)[x2.heap.size]? = some _
        rw [Array.getElem?_push_size]
        rfl
      hcb := by rw [hcb]; exact Nat.le_trans B1.out.size t2.size
      hne := by omega
      nv := by intro e; cases e
      five := rfl
      cnt := by intro j hj; have : j = 0 ∨ j = 1 ∨ j = 2 ∨ j = 3 ∨ j = 4 := by omega
                rcases this with rfl | rfl | rfl | rfl | rfl <;> rfl
      tot := rfl
      len := rfl
      low := by intro j hj; have : j = 0 ∨ j = 1 ∨ j = 2 ∨ j = 3 ∨ j = 4 := by omega
                rcases this with rfl | rfl | rfl | rfl | rfl <;> exact ⟨Int.le_refl _, Int.le_refl _⟩
      bel := B1.out.trans ((t2.trans T3 (by simp)).belowAll.mono B1.out.size) }
  have HCB := Lib.hid hcb
  clear h2 t2 T3 hbs
  go_wp2_with fail
  rw [← hbb, ← hcb]
  clear hbb hcb
  go_loopw [7] (fun vi wr => ∃ (k : Nat) (K : List (Int × Int)) (C : List Int) (v : Value), k ≤ n ∧ k ≤ 30 ∧ vi = .int .i64 (k : Int) ∧ Eq5 w wr b cb k K C v) (fun vi _ => 30 - (intOf vi).toNat)
  case atStart => exact ⟨0, [], _, _, by omega, by omega, rfl, E3.out⟩
  case round =>
    obtain ⟨k, K, C, v, hk, hk30, rfl, ho⟩ := hrel
    have O := Lib.hid ho
    clear ho E3
    by_cases hlt : k < n ∧ k < 30
    · obtain ⟨hl, h30⟩ := hlt
      obtain ⟨ob, off, rfl, hob, hop⟩ := H0.out.at (by intro e; rw [← List.length_eq_zero_iff] at e; have := HN.out; omega)
      have hcell := (O.out.bel.cell (p := ⟨ob, off + k, none⟩) hob).trans (hop k (by rw [← HN.out]; exact hl))
      obtain ⟨y, hy⟩ : ∃ y, y = l0.getD k 0 := ⟨_, rfl⟩
      have hyb := H0.out.bound k
      rw [← hy] at hcell hyb
      have ea : (y.tmod 5 + 5).tmod 5 = y % 5 := rest5_eq y
      have ba : -5 < y.tmod 5 ∧ y.tmod 5 < 5 := by
        rw [Int.tmod_eq_emod (a := y) (b := 5)]
        split <;> omega
      obtain ⟨j, hj⟩ : ∃ j : Nat, y % 5 = (j : Int) := ⟨(y % 5).toNat, by omega⟩
      have HJ := Lib.hid hj
      rw [hj] at ea
      have hj5 : j < 5 := by omega
      have hcn := O.out.cell hj5
      have hfz : wr.frozen? ⟨cb, j, none⟩ = false := unfrozen_of O.out.arr
      have hlow := O.out.low j hj5
      obtain ⟨c, hc⟩ : ∃ c, c = C.getD j 0 := ⟨_, rfl⟩
      have HC := Lib.hid hc
      rw [← hc] at hcn hlow
      have hb : 0 ≤ (k : Int) ∧ (k : Int) < (n : Int) := by omega
      have hbm : (k : Int) < min (n : Int) 30 := by omega
      have hbj : 0 ≤ (j : Int) ∧ (j : Int) < 5 := by omega
      have hoc : ob ≠ cb := by have := O.out.hcb; omega
      have HOP := Lib.hid hop
      have hyq := Lib.hid hy
      clear hop hy hj hc
      go_wp2_with fail
      obtain ⟨w2, hw2⟩ : ∃ w2, w2 = wr.setCell ⟨cb, j, none⟩ (.int .i64 (c + 1)) := ⟨_, rfl⟩
      have q1 : w2.cell? ⟨cb, j, none⟩ = some (.int .i64 (c + 1)) := by
        have := block_set O.out.arr (i := j) (.int .i64 (c + 1))
        rw [← hw2] at this
        rw [cell_of_row _ _ _ _ _ _ this]
        have h5 := O.out.five
        simp [ints, h5, hj5]
      have q2 : w2.cell? ⟨ob, off + k, none⟩ = some (.int .i64 y) := by
        have ts : Turn [cb] wr w2 := by rw [hw2]; exact Turn.setCell _ (by simp) _
        exact ts.cell hcell (by simpa using hoc)
      have CA : Hid (Calls Try.prog 15 #[.pointer (some ⟨b, 0, none⟩), .int .i64 y, .int .i64 1] w2.drew fun e w' =>
          e = .returned (.int .i64 (c + 1)) ∧ (∃ K' v', Hid (Eq5 w w' b cb (k + 1) K' (C.set j (c + 1)) v')) ∧ w'.cell? ⟨cb, j, none⟩ = some (.int .i64 (c + 1)) ∧ w'.cell? ⟨ob, off + k, none⟩ = some (.int .i64 y)) := by
        have A := O.out.add (by omega) (x := y) hyb HJ.out (w2 := w2) (by rw [hw2, HC.out])
        rw [← HC.out] at A
        refine Lib.hid (A.mono ?_)
        rintro e w' ⟨K', v', rfl, h', -⟩
        refine ⟨rfl, ⟨K', v', Lib.hid h'⟩, ?_, ?_⟩
        · rw [h'.cell hj5]
          have := O.out.five
          simp [List.getD, this, hj5]
        · exact (h'.bel.cell (p := ⟨ob, off + k, none⟩) hob).trans (by rw [HOP.out k (by rw [← HN.out]; exact hl), ← hyq.out])
      rw [← hw2]
      clear hw2
      go_region_held3 (fun w' => w'.cell? ⟨cb, j, none⟩ = some (.int .i64 (c + 1)) ∧ w'.cell? ⟨ob, off + k, none⟩ = some (.int .i64 y))
        (first | exact ⟨p1, p2⟩ | exact ⟨q1, q2⟩)
        (first
          | (go_at_call 15; ((with_reducible refine CA.out.mono ?_); rintro e w' ⟨rfl, ⟨K', v', o'⟩, p1, p2⟩)))
      go_wp2
      go_roundw
      case rel => exact ⟨k + 1, K', _, v', by omega, by omega, by go_num, o'.out⟩
      case measure => simp [intOf]; omega
    · have hm : min (n : Int) 30 = (k : Int) := by omega
      have hml : ¬ (k : Int) < min (n : Int) 30 := by omega
      have L5 := Lib.hid O.out.five
      go_wp2_with fail
      go_loopw [9, 10] (fun vs vi wq => ∃ (m : Nat), m ≤ 5 ∧ vs = .int .i64 (nz (C.take m) : Int) ∧ vi = .int .i64 (m : Int) ∧ Eq5 w wq b cb k K C v) (fun _ vi _ => 5 - (intOf vi).toNat)
      case atStart => exact ⟨0, by omega, rfl, rfl, O.out⟩
      case round =>
        obtain ⟨m, hm5, rfl, rfl, ho⟩ := hrel
        have P := Lib.hid ho
        clear ho O
        by_cases hmm : m < 5
        · have hcn := P.out.cell hmm
          have hlow := P.out.low m hmm
          obtain ⟨c, hc⟩ : ∃ c, c = C.getD m 0 := ⟨_, rfl⟩
          have hnz := nz_take C m (by rw [L5.out]; exact hmm)
          have hz5 : nz (C.take m) ≤ 5 := by
            have := nz_le (C.take m)
            rw [List.length_take] at this
            omega
          obtain ⟨z, hz⟩ : ∃ z, z = nz (C.take m) := ⟨_, rfl⟩
          have HC := Lib.hid hc
          rw [← hc] at hcn hlow hnz
          rw [← hz] at hnz hz5 ⊢
          have hbj : 0 ≤ (m : Int) ∧ (m : Int) < 5 := by omega
          have CA : ∀ wq', wq' = wr.drew → Hid (Calls Try.prog 16 #[.pointer (some ⟨b, 0, none⟩), .int .i64 (m : Int)] wq' fun e w' =>
              e = .returned (.int .i64 c) ∧ Hid (Eq5 w w' b cb k K C v) ∧ w'.cell? ⟨cb, m, none⟩ = some (.int .i64 c)) := by
            rintro wq' rfl
            have P2 := P.out.quiet (Turn.drew [] wr)
            have A := lb_count P2.lb be1_ok by5 trivial (x := (m : Int)) (by unfold inI64; omega)
            have hg : getK key5 K (key5 (m : Int)) = c := by
              rw [show key5 (m : Int) = (m : Int) by unfold key5; omega, ← P2.cnt m hmm, HC.out]
            rw [hg] at A
            refine Lib.hid (A.mono ?_)
            rintro e w' ⟨rfl, t⟩
            have P3 := P2.quiet t
            exact ⟨rfl, Lib.hid P3, by rw [HC.out]; exact P3.cell hmm⟩
          clear hc hz
          by_cases hpos : 0 < c
          · rw [if_pos hpos] at hnz
            go_wp2_with fail
            go_region_held3 (fun w' => w'.cell? ⟨cb, m, none⟩ = some (.int .i64 c))
              (first | exact p1 | exact hcn)
              (first
                | (go_at_call 16; ((with_reducible refine (CA _ rfl).out.mono ?_); rintro e w' ⟨rfl, P3, p1⟩)))
            go_wp2
            go_roundw
            case rel => exact ⟨m + 1, by omega, by rw [hnz]; first | rfl | go_num, by go_num, P3.out⟩
            case measure => simp [intOf]; omega
          · rw [if_neg hpos] at hnz
            go_wp2_with fail
            go_region_held3 (fun w' => w'.cell? ⟨cb, m, none⟩ = some (.int .i64 c))
              (first | exact p1 | exact hcn)
              (first
                | (go_at_call 16; ((with_reducible refine (CA _ rfl).out.mono ?_); rintro e w' ⟨rfl, P3, p1⟩)))
            go_wp2
            go_roundw
            case rel => exact ⟨m + 1, by omega, by rw [hnz]; first | rfl | go_num, by go_num, P3.out⟩
            case measure => simp [intOf]; omega
        · have hm5' : m = 5 := by omega
          subst hm5'
          obtain ⟨z, hz⟩ : ∃ z, z = nz (C.take 5) := ⟨_, rfl⟩
          have hz2 : K.length = z := by rw [P.out.len, hz, List.take_of_length_le (by rw [L5.out]; omega)]
          rw [← hz]
          have CK := Lib.hid (kindsI P.out.lb.bag)
          have CL : ∀ wq', wq' = wr → Hid (Calls Try.prog 17 #[.pointer (some ⟨b, 0, none⟩)] wq' fun e w' => e = .returned (.int .i64 (k : Int)) ∧ Hid (Eq5 w w' b cb k K C v)) := by
            rintro wq' rfl
            have A := lb_len P.out.lb (by rw [P.out.tot]; omega)
            rw [P.out.tot] at A
            refine Lib.hid (A.mono ?_)
            rintro e w' ⟨rfl, t⟩
            exact ⟨rfl, Lib.hid (P.out.quiet t)⟩
          rw [hz2] at CK
          clear hz
          go_wp2_with fail
          refine CK.out.mono ?_
          rintro e x5 ⟨rfl, rfl⟩
          go_wp2_with fail
          refine (CL _ rfl).out.mono ?_
          rintro e x6 ⟨rfl, P6⟩
          have CE := Lib.hid (eachI P6.out.lb.bag)
          have B6 := Lib.hid P6.out.bel
          rw [hz2] at CE
          clear CL CK P P6
          go_wp2_with fail
          refine CE.out.mono ?_
          rintro e x7 ⟨rfl, -, hb7⟩
          have B7 := Lib.hid (B6.out.trans (hb7.mono B6.out.size))
          clear CE B6 hb7
          go_wp2
          go_ret
          exact ⟨rfl, B7.out⟩

end Go.Proofs.Ytikbldnekehodaa
