/-
  Of the texts LockOwnWalk LockOwn, in build order, each as it was built alone.
-/
import Derived.Test.YtjmainefmiefcaaGreatPkAC
import Derived.OpenShut
import Derived.Deep.CutRange
import Derived.Test.YtjmainefmiefcaaGreatRows
import Derived.Test.YtjmainefmiefcaaGreatPkAD
import Derived.Test.YtjmainefmiefcaaGreatPkAH
import Derived.ProofKit
import Derived.ShutString
import Derived.ChangeOld
import Derived.Below

/-
  The walk of the law LockOwn.
-/
namespace Go.Proofs.YtjmainefmiefcaaGreat
open Go.RowKit

abbrev nQ3 : ByteArray := ⟨#[113]⟩

def tx (i : Nat) : ByteArray := ⟨[UInt8.ofNat (97 + i)].toArray⟩

def own (k : Nat) : Pts := (List.range k).map fun i => (nQ3, tx i)

theorem tx_size (i : Nat) : (tx i).size ≤ 9223372036854775807 := by
  have : (tx i).size = 1 := rfl
  omega

theorem own_length (k : Nat) : (own k).length = k := by simp [own]

theorem own_succ (k : Nat) : own (k + 1) = own k ++ [(nQ3, tx k)] := by simp [own, List.range_succ]

theorem conv_at {w : World} {q i : Nat} (hc : w.cell? ⟨q, 0, none⟩ = some (.int .u8 (97 + (i : Int)))) (hi : i ≤ 9) : (convert 45 9 (.slice (some ⟨q, 0, none⟩) 1 1)).run Tryz.prog w = .ok (.string (tx i)) w := by
  refine run_convert_bytes_back (P := Tryz.prog) w 45 9 5 ⟨q, 0, none⟩ 1 [UInt8.ofNat (97 + i)] Tryz.underlying45 Tryz.underlying5 Tryz.underlying9 (fun j hj => ?_)
  obtain rfl : j = 0 := by simp at hj; omega
  rw [Addr.add_lit, Nat.zero_add, hc]
  simp
  omega

theorem conv_ch (w : World) (q : Nat) (hq : q = w.heap.size) (i : Nat) (hi : i ≤ 9) : (convert 45 9 (.slice (some ⟨q, 0, none⟩) 1 1)).run Tryz.prog (w.alloc (.cells #[.int .u8 (97 + (i : Int))] 5)) = .ok (.string (tx i)) (w.alloc (.cells #[.int .u8 (97 + (i : Int))] 5)) := by
  subst hq
  exact conv_at (by rw [cell_of_row _ _ _ _ _ _ (heap_alloc_new w _)]; rfl) hi

theorem flat_one {x : Int} {n : Int} {P : Pts} {Q : List Gq} (h : Qat [] [] x n P Q) : Q.flatMap (·.puts) = P := by
  rcases h with ⟨rfl, -, rfl, -⟩ | ⟨hd, rfl⟩
  · rfl
  · simp

/-- A row with something has a block. -/
theorem row_some {w : World} {base : Nat} {e : TypeId} {size : Nat} {ao : Option Addr} {n c m : Nat} {xs : List Value} (h : w.ownsRow base e size (.slice ao n c) m xs) (hm : 0 < m) : ∃ g, ao = some ⟨g, 0, none⟩ := by
  rcases h.2 with ⟨e, h0⟩ | ⟨g, cap, cur, e, -⟩
  · omega
  · injection e with e1
    exact ⟨g, e1⟩

theorem putc (k i : Nat) (h : i < k) : (pcells (own k))[i * 2 + 1]? = some (.string (tx i)) := by
  have := (pcells_at (own k) i (by rw [own_length]; exact h)).2
  rw [this]
  simp [own, List.getD, h]

set_option maxHeartbeats 8000000 in
set_option maxRecDepth 100000 in
theorem lockOwn_walk (hbg : BegunOk) {w : World} (n : Int) (hn : (Lit.int .i64 n).wf = true) : Calls Tryz.prog 4 #[.int .i64 n] w fun e w' => e = .returned (.bool true) ∧ Below w.heap.size w w' := by
  obtain ⟨N, hN⟩ : ∃ N : Nat, n % 10 = (N : Int) := ⟨(n % 10).toNat, by omega⟩
  have ba : -10 < n.tmod 10 ∧ n.tmod 10 < 10 := by
    rw [Int.tmod_eq_emod (a := n) (b := 10)]
    split <;> omega
  have ea : (n.tmod 10 + 10).tmod 10 = (N : Int) := by
    rw [← hN]
    have h0 := Int.tmod_eq_emod (a := n) (b := 10)
    rw [Int.tmod_eq_emod_of_nonneg (by omega)]
    split at h0 <;> omega
  have hN9 : (N : Int) ≤ 9 := by omega
  have hb0 := Go.bounds_i64 hn
  clear hN hn
  go_enter Tryz.func4, Tryz.ntmps4
  go_wp2_with fail
  refine (hbg w).mono ?_
  rintro e w1 ⟨rfl, b1⟩
  have B1 := Lib.hid b1
  clear b1
  go_wp2_with fail
  refine (lw_new B1.out).mono ?_
  rintro e w2 ⟨b, rfl, h2⟩
  have O2 := Lib.hid h2
  clear h2 B1
  go_wp2_with fail
  have H9 := Lib.hid hN9
  clear ba ea hb0 hN9
  go_loopw [5] (fun vi wx => ∃ (k : Nat) (Q : List Gq), k ≤ N ∧ vi = .int .i64 (k : Int) ∧ Qat [] [] 3 (k : Int) (own k) Q ∧ Lw w wx b k 0 Q) (fun vi _ => N - (intOf vi).toNat)
  case atStart => exact ⟨0, [], by omega, rfl, .inl ⟨rfl, rfl, rfl, by simp⟩, O2.out⟩
  case round =>
    obtain ⟨k, Q, hk, rfl, hQ, ho⟩ := hrel
    have O := Lib.hid ho
    have HQ := Lib.hid hQ
    clear ho O2 hQ
    by_cases hkn : (k : Int) < (N : Int)
    · have f1 := conv_ch wr wr.heap.size rfl k (by have := H9.out; omega)
      have TXS : Hid ((tx k).size ≤ 9223372036854775807) := Lib.hid (tx_size k)
      go_upto_region 9 with fail
      obtain ⟨s, hs⟩ : ∃ s, s = tx k := ⟨_, rfl⟩
      have HSS := Lib.hid hs
      rw [← hs] at f1 TXS
      generalize hi : (k : Int) = i at *
      have HI := Lib.hid hi
      have hi9 : 0 ≤ i ∧ i ≤ 9 := by have := H9.out; omega
      have hw8 : IntKind.u8.wrap (97 + i) = 97 + i := by rw [IntKind.wrap_u8]; omega
      have HKN := Lib.hid hkn
      clear hi hkn hs
      go_wp2_with fail
      refine (lw_put (O.out.quiet (Turn.alloc [] wr _)) HQ.out (by unfold inI64; omega) no_q.1 no_q.2 (by have := H9.out; have := HI.out; omega) (by rw [own_length]; have := H9.out; have := HI.out; omega) (by have := H9.out; have := HI.out; omega) nQ3 s (by decide) TXS.out).mono ?_
      rintro e w5 ⟨rfl, h5⟩
      have O5 := Lib.hid h5
      clear h5 O f1 hw8
      go_wp2_with fail
      go_roundw
      case rel => exact ⟨k + 1, _, by have := HI.out; have := HKN.out; omega, by rw [← HI.out]; go_num, .inr ⟨0, by rw [own_succ, ← HSS.out, Int.natCast_succ, HI.out]⟩, O5.out⟩
      case measure => have := HI.out; have := HKN.out; simp [intOf]; omega
    · have hkk : k = N := by omega
      subst hkk
      have hlt : ¬ ((k : Int) < (k : Int)) := by omega
      clear hkn
      go_wp2_with fail
      refine (lw_puts O.out HQ.out (by unfold inI64; omega) no_q.1 no_q.2).mono ?_
      rintro e w5 ⟨ax, cx, rfl, rx, t5⟩
      have RX := Lib.hid rx
      have T5 := Lib.hid t5
      clear rx t5
      go_wp2_with fail
      refine (lw_all (O.out.quiet T5.out)).mono ?_
      rintro e w6 ⟨ay, cy, rfl, ry, t6⟩
      rw [flat_one HQ.out, own_length] at ry ⊢
      have RY := Lib.hid ry
      have T6 := Lib.hid t6
      have RX6 := Lib.hid (ownsRow_turn RX.out t6 (by simp))
      rw [own_length] at RX6 RX
      have RXL := RX
      clear ry t6 RX
      go_wp2_with fail
      have L5 := Lib.hid T5.out.size
      have HGX : Hid (∀ i, (Value.slice ax k cx).ownBlock = some i → i < w5.heap.size) := Lib.hid (fun i hi => by
        have h := RXL.out
        obtain ⟨cs, hc⟩ := row_block h hi
        exact lt_of_heap hc)
      obtain ⟨lx, hlx⟩ : ∃ l, l = (Value.slice ax k cx).ownBlock.toList := ⟨_, rfl⟩
      obtain ⟨ly, hly⟩ : ∃ l, l = (Value.slice ay k cy).ownBlock.toList := ⟨_, rfl⟩
      have LX := Lib.hid hlx
      have LY := Lib.hid hly
      have HXY : Hid (∀ i ∈ lx ++ ly, wr.heap.size ≤ i) := Lib.hid (fun i hi => by
        rcases List.mem_append.1 hi with h | h
        · rw [LX.out] at h; exact (RX6.out.lt _ (Option.mem_toList.1 h)).1
        · rw [LY.out] at h; exact Nat.le_trans L5.out (RY.out.lt _ (Option.mem_toList.1 h)).1)
      clear hlx hly
      go_loopw [8, 39] (fun _ vj wx => ∃ (j : Nat) (xs ys : List Value), j ≤ k ∧ vj = .int .i64 (j : Int) ∧ wx.ownsRow wr.heap.size 28 2 (.slice ax k cx) k xs ∧ wx.ownsRow w5.heap.size 28 2 (.slice ay k cy) k ys ∧ Turn (lx ++ ly) w6 wx) (fun _ vj _ => k - (intOf vj).toNat)
      case atStart => exact ⟨0, _, _, by omega, rfl, RX6.out, RY.out, Turn.refl _ _⟩
      case round =>
        obtain ⟨j, xs, ys, hj, rfl, hrx, hry, ht⟩ := hrel
        by_cases hjk : (j : Int) < (k : Int)
        · obtain ⟨gx, hgx⟩ := row_some hrx (by omega)
          obtain ⟨gy, hgy⟩ := row_some hry (by omega)
          subst hgx hgy
          have fx := hrx.frozenAt (j * 2 + 1)
          have fy := hry.frozenAt (j * 2 + 1)
          have hlx := hrx.1
          have hly := hry.1
          have cx1 := (hrx.cellAt (j * 2 + 1) (by omega)).trans (List.getElem?_eq_getElem (by omega))
          have cy1 := (hry.cellAt (j * 2 + 1) (by omega)).trans (List.getElem?_eq_getElem (by omega))
          have hne : gx ≠ gy := by
            have h1 := HGX.out gx rfl
            have h2 := (hry.lt gy rfl).1
            omega
          have bj : 0 ≤ (j : Int) ∧ (j : Int) < (k : Int) := by omega
          have hk9 : (k : Int) ≤ 9 := H9.out
          have RX8 := Lib.hid (ownsRow_turn (hrx.stored (j * 2 + 1) (.string ⟨#[122]⟩)).1 (Turn.setCell (l := [gy]) (b := gy) (i := j * 2 + 1) _ (by simp) (.string ⟨#[122]⟩)) (fun i hi e => by cases hi; exact hne (List.mem_singleton.1 e)))
          have RY8 := Lib.hid ((ownsRow_turn hry (Turn.setCell (l := [gx]) (b := gx) (i := j * 2 + 1) wr (by simp) (.string ⟨#[122]⟩)) (fun i hi e => by cases hi; exact hne (List.mem_singleton.1 e).symm)).stored (j * 2 + 1) (.string ⟨#[122]⟩)).1
          have T8 := Lib.hid ((ht.trans (Turn.setCell (l := lx ++ ly) (b := gx) (i := j * 2 + 1) wr (List.mem_append.2 (.inl (by rw [LX.out]; simp [Value.ownBlock]))) (.string ⟨#[122]⟩)) (fun i hi => .inl hi)).trans (Turn.setCell (l := lx ++ ly) (b := gy) (i := j * 2 + 1) _ (List.mem_append.2 (.inr (by rw [LY.out]; simp [Value.ownBlock]))) (.string ⟨#[122]⟩)) (fun i hi => .inl hi))
          clear hrx hry ht hj
          go_wp2_with fail
          go_roundw
          case rel => exact ⟨j + 1, _, _, by omega, by go_num, RX8.out, RY8.out, T8.out⟩
          case measure => simp [intOf]; omega
        · have hjj : j = k := by omega
          subst hjj
          have O7 := Lib.hid (O.out.over (T5.out.trans T6.out (by simp)) HXY.out ht)
          have hlt2 : ¬ ((j : Int) < (j : Int)) := by omega
          clear hrx hry ht hjk hlt
          go_wp2_with fail
          refine (lw_puts O7.out HQ.out (by unfold inI64; omega) no_q.1 no_q.2).mono ?_
          rintro e w8 ⟨az, cz, rfl, rz, t8⟩
          rw [own_length] at rz ⊢
          have RZ := Lib.hid rz
          have O8 := Lib.hid (O7.out.quiet t8)
          clear rz t8 O7
          go_wp2_with fail
          go_loopw [10] (fun vi wx => ∃ (m : Nat), m ≤ j ∧ vi = .int .i64 (m : Int) ∧ Turn [] w8 wx) (fun vi _ => j - (intOf vi).toNat)
          case atStart => exact ⟨0, by omega, rfl, Turn.refl _ _⟩
          case round =>
            obtain ⟨m, hm, rfl, ht⟩ := hrel
            have HT := Lib.hid ht
            clear ht
            by_cases hmj : (m : Int) < (j : Int)
            · have rz2 := ownsRow_turn RZ.out HT.out (by simp)
              obtain ⟨gz, hgz⟩ := row_some rz2 (by omega)
              subst hgz
              have cz1 := (rz2.cellAt (m * 2 + 1) (by omega)).trans (putc j m (by omega))
              have C1 := Lib.hid cz1
              have bm : 0 ≤ (m : Int) ∧ (m : Int) < (j : Int) := by omega
              have hk9 : (j : Int) ≤ 9 := H9.out
              have HMM := Lib.hid hm
              clear rz2 hmj hm cz1
              have hm9 : m ≤ 9 := by have := H9.out; omega
              have f1 := Lib.hid (fun (y : World) (q : Nat) (hc : y.cell? ⟨q, 0, none⟩ = some (.int .u8 (97 + (m : Int)))) => conv_at hc hm9)
              obtain ⟨s, hs⟩ : ∃ s, s = tx m := ⟨_, rfl⟩
              rw [← hs] at f1 C1
              have hw8 : IntKind.u8.wrap (97 + (m : Int)) = 97 + (m : Int) := by rw [IntKind.wrap_u8]; omega
              have hw64 : IntKind.i64.wrap (97 + (m : Int)) = 97 + (m : Int) := by rw [IntKind.wrap_i64]; omega
              clear hs
              go_upto_region 21 with fail
              have TD := Lib.hid (Turn.drew [] wr)
              have hS : (fun y : World => y.cell? ⟨gz, m * 2 + 1, none⟩ = some (.string s)) wr.drew := TD.out.cell C1.out (by simp)
              refine Pq.start [] (fun y => y.cell? ⟨gz, m * 2 + 1, none⟩ = some (.string s)) (fun _ => True) (by kernel_rfl) ?_
              dsimp only at hS
              refine Pq.tk 0 (some 59) (v := ?_) hS ?_ ?_
              rotate_left
              · (intro y hy; go_simp; try with_reducible rfl)
              simp only [Act.put, List.setIfInBounds_toArray, List.set_cons_zero, List.set_cons_succ]
              refine Pq.tk 1 (some 60) (v := ?_) hS ?_ ?_
              rotate_left
              · (intro y hy; go_simp; try with_reducible rfl)
              simp only [Act.put, List.setIfInBounds_toArray, List.set_cons_zero, List.set_cons_succ]
              refine Pq.tk 2 (some 61) (v := ?_) hS ?_ ?_
              rotate_left
              · (intro y hy; go_simp; try with_reducible rfl)
              simp only [Act.put, List.setIfInBounds_toArray, List.set_cons_zero, List.set_cons_succ]
              refine Pq.tk 3 (some 62) (v := ?_) hS ?_ ?_
              rotate_left
              · (intro y hy; go_simp; try with_reducible rfl)
              simp only [Act.put, List.setIfInBounds_toArray, List.set_cons_zero, List.set_cons_succ]
              refine Pq.tk 4 (some 63) (v := ?_) hS ?_ ?_
              rotate_left
              · (intro y hy; go_simp; try with_reducible rfl)
              simp only [Act.put, List.setIfInBounds_toArray, List.set_cons_zero, List.set_cons_succ]
              refine Pq.tk 5 (some 64) (v := ?_) hS ?_ ?_
              rotate_left
              · (intro y hy; go_simp; try with_reducible rfl)
              simp only [Act.put, List.setIfInBounds_toArray, List.set_cons_zero, List.set_cons_succ]
              refine Pq.tk 6 (some 65) (v := ?_) hS ?_ ?_
              rotate_left
              · (intro y hy; go_simp; try with_reducible rfl)
              simp only [Act.put, List.setIfInBounds_toArray, List.set_cons_zero, List.set_cons_succ]
              refine Pq.tk 7 (some 66) (v := ?_) hS ?_ ?_
              rotate_left
              · (intro y hy; go_simp; try with_reducible rfl)
              simp only [Act.put, List.setIfInBounds_toArray, List.set_cons_zero, List.set_cons_succ]
              refine Pq.one (i := 8) (by kernel_rfl) rfl ?_
              intro K0 hK
              rw [if_pos (by rfl)]
              go_simp
              have T3 := Lib.hid ((Turn.alloc [] wr (.cells #[.int .u8 (97 + (m : Int))] 5)).trans (Turn.drew [] _) (by simp))
              have HQ9 : Hid ((wr.alloc (.cells #[.int .u8 (97 + (m : Int))] 5)).drew.cell? ⟨wr.heap.size, 0, none⟩ = some (.int .u8 (97 + (m : Int)))) := Lib.hid (by rw [cell_of_row _ _ _ _ _ _ ((Turn.drew [] _).heap (heap_alloc_new wr (.cells #[.int .u8 (97 + (m : Int))] 5)) (by simp))]; rfl)
              refine hK _ _ (T3.out.cell C1.out (by simp)) (.inr id) ?_
              clear hK K0 hS
              have hS : (fun y : World => y.cell? ⟨gz, m * 2 + 1, none⟩ = some (.string s)) (wr.alloc (.cells #[.int .u8 (97 + (m : Int))] 5)).drew := T3.out.cell C1.out (by simp)
              have f2 := f1.out _ _ HQ9.out
              generalize (wr.alloc (.cells #[.int .u8 (97 + (m : Int))] 5)).drew = y3 at *
              generalize wr.heap.size = qn at *
              refine Pq.one (i := 9) (by kernel_rfl) rfl ?_
              intro K0 hK
              rw [if_pos (by rfl)]
              go_simp
              refine hK _ _ hS (.inr id) ?_
              clear hK K0 f1 f2
              refine Pq.tk 10 (some 69) (v := ?_) hS ?_ ?_
              rotate_left
              · (intro y hy; go_simp; try with_reducible rfl)
              refine Pq.done (by kernel_rfl) ?_ _
              go_wp2_with fail
              go_roundw
              case rel => exact ⟨m + 1, by omega, by go_num, HT.out.trans T3.out (by simp)⟩
              case measure => simp [intOf]; omega
            · have hmm : m = j := by omega
              subst hmm
              have hlt3 : ¬ ((m : Int) < (m : Int)) := by omega
              have O9 := Lib.hid (O8.out.quiet HT.out)
              clear hmj
              go_wp2_with fail
              refine (lw_n O9.out HQ.out (by unfold inI64; omega) no_q.1 no_q.2).mono ?_
              rintro e w9 ⟨rfl, t9⟩
              have B9 := Lib.hid (O9.out.quiet t9).bel
              clear t9 O9
              go_wp2
              go_ret
              exact ⟨rfl, B9.out⟩

end Go.Proofs.YtjmainefmiefcaaGreat


/-
  The law 'postillionlaw13.LockOwn' answers true at every input, and each argument reads behind the call as it read before: for every input, no condition; the frame round the walk 'lockOwn_walk'.
-/
namespace Go.Proofs.YtjmainefmiefcaaGreat.lockOwn
open Go.ChangeShapes Go.WideShapes Go.ChangeAt Go.RowKit
open Go.ChangeMaps (open_string shut_string)
set_option linter.unusedVariables false

theorem own : ownKnob Tryz.prog.godebug = none := by kernel_rfl
theorem laidOut : laidOutB Tryz.prog = true := by kernel_rfl

set_option maxRecDepth 100000 in
theorem lifted (os : Os) (started : os.Started) (H : Type) (enc : TypeId × Value → H) :
    ReturnsInHanded {} Tryz.checked os 4 .any (Rows.lockOwnSpec.pre6 enc Tryz.prog Tryz.f4 Rows.lockOwnRow.domain false) (Rows.lockOwnSpec.post enc Tryz.prog Tryz.f4 false true false false) := by
  refine returnsInHanded_of_change (C := Tryz.checked) own started (by kernel_rfl) Tryz.func4
    (ChangeSpec.witness6 (enc := enc) (C := Tryz.checked) false ⟨#[], #[.int .i64 0], []⟩ 8 (by kernel_rfl) (by kernel_rfl) (by kernel_rfl) (by kernel_rfl)) ?_
  intro W base args ds gs before hval0 hW hcnd _
  have hval : ∀ (j : Nat) t v, Tryz.f4.params[j]? = some t → args[j]? = some v → Value.okWide Tryz.prog W .any base t v := hval0
  have hW' := hW
  obtain ⟨p, q, hA0, hV, rfl, hfz, hnd⟩ := hW
  have hA : DataW.TrodAll enc Tryz.prog W 0 (fun _ => true) true Tryz.f4.params.toList args.toList ds p := hA0
  rw [Tryz.params4] at hA hval
  obtain ⟨v0, vs0, d0, ds0, p0, q0, hargs, rfl, rfl, h0, r0⟩ := trodAll_cons hA
  obtain ⟨rfl, rfl, rfl⟩ := trodAll_nil r0
  obtain rfl : args = #[v0] := by cases args; simp_all
  obtain ⟨rfl, rfl⟩ := trodVars_none hV
  obtain ⟨a0, rfl, rfl, rfl, w0⟩ := open_int Tryz.underlying3 (hval 0 3 v0 rfl rfl) h0
  clear hA0 hval0
  refine (lockOwn_walk begun13_ok (w := W) a0 w0).mono fun e W' ⟨he, bel⟩ => ?_
  subst he
  exact ⟨_, rfl, _, _, _, [], _, [], hW', trodAll_mk1 (shut_bool Tryz.underlying4 _), (trodAll_cons_mk (shut_int Tryz.underlying3 w0) trodAll_mk0), rfl, bel.frame _, fun h => by cases h⟩

theorem over : Rows.lockOwnRow.holds Tryz.pinned (OpenSpec.ofChange Rows.lockOwnSpec) :=
  OpenClaim.holds_of_wide 4 Tryz.f4 rfl rfl rfl rfl rfl rfl rfl ⟨rfl, rfl, rfl, rfl, rfl⟩ rfl rfl rfl rfl rfl (by kernel_rfl) Tryz.func4 (by kernel_rfl)
    (of_decide_eq_true (by kernel_rfl)) (by unfold Func.isWrapper; first | (rw [if_pos (by decide +kernel)]; kernel_rfl) | (rw [if_neg (by decide +kernel)]; exact ⟨rfl, rfl⟩))
    (fun os started H enc _ => lifted os started H enc)

/-- The statement. -/
theorem proved : Rows.LockOwnSaid := over
end Go.Proofs.YtjmainefmiefcaaGreat.lockOwn
