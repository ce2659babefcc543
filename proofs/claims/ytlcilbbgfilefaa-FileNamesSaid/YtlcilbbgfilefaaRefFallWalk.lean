/-
  The walk of the reference's Fall.
-/
import Derived.Test.YtlcilbbgfilefaaRefFall
import Derived.Test.YtlcilbbgfilefaaPhase
namespace Go.Proofs.Ytlcilbbgfilefaa
open Go.RowKit

set_option maxHeartbeats 4000000 in
set_option maxRecDepth 100000 in
theorem refFall_calls {r room : Nat} {l : List Nat} {M : List Fm} (n : Int) (hn : -9223372036854775808 ≤ n ∧ n ≤ 9223372036854775807) (w : World) (h : RefM w r room l M) (hfew : M.length ≤ 400000) (htot : tot M ≤ 1048576) :
    Calls Try.prog 20 #[.pointer (some ⟨r, 0, none⟩), .int .i64 n] w fun e w' => ∃ bb l', e = .returned (.pointer (some ⟨bb, 0, none⟩)) ∧ RefM w' bb room l' (mFall n M) ∧ Below w.heap.size w w' ∧ ∀ i ∈ l', w.heap.size ≤ i := by
  have c0 : w.cell? ⟨r, 0, none⟩ = some (.int .i64 (room : Int)) := by
    obtain ⟨v, R, hd, -, -⟩ := h
    exact (two_cells hd.head).1
  have hD : RefM (w.alloc (.cells #[.int .i64 (room : Int), .slice none 0 0] 61)) w.heap.size room [w.heap.size] (mFall n (M.take 0)) :=
    ⟨.slice none 0 0, [], ⟨heap_alloc_new w _, World.ownsRow_nil _ _ _ _, by simp, by simp [Value.ownBlock], by simp, by simp, by simp [tot]⟩, rfl, rfl⟩
  have H := Lib.hid h
  have HD := Lib.hid hD
  have HB := Lib.hid (new_below w (.cells #[.int .i64 (room : Int), .slice none 0 0] 61))
  have HT := Lib.hid htot
  have HN := Lib.hid hn
  obtain ⟨N, hN⟩ : ∃ N, N = M.length := ⟨_, rfl⟩
  rw [← hN] at hfew
  have HNN := Lib.hid hN
  clear h hD htot hN
  go_enter Try.func20, Try.ntmps20
  go_wp2_with fail
  generalize hw1 : w.alloc _ = w1 at HD HB ⊢
  obtain ⟨B, hB⟩ : ∃ B, B = w.heap.size := ⟨_, rfl⟩
  rw [← hB] at HD ⊢
  have HBB := Lib.hid hB
  clear hw1 c0 hB
  go_loopw [6] (fun i wr => ∃ (k : Nat) (lb : List Nat), k ≤ N ∧ i = .int .i64 k ∧ RefM wr B room lb (mFall n (M.take k)) ∧ Below w.heap.size w wr ∧ ∀ i ∈ lb, w.heap.size ≤ i) (fun i _ => N - (intOf i).toNat)
  case atStart => exact ⟨0, _, by omega, rfl, HD.out, HB.out, fun i hi => by simp at hi; rw [hi, HBB.out]; exact Nat.le_refl _⟩
  case round =>
    obtain ⟨k, lb, hk, rfl, hbh, hb3, hlb⟩ := hrel
    have HBH := Lib.hid hbh
    have B3 := Lib.hid hb3
    have HLB := Lib.hid hlb
    clear hbh hb3 hlb
    by_cases hlt : k < N
    · have hkM : k < M.length := by rw [← HNN.out]; exact hlt
      obtain ⟨f, hf⟩ : ∃ f, f = M[k] := ⟨_, rfl⟩
      have hM : M = M.take k ++ f :: M.drop (k + 1) := by
        rw [hf, List.getElem_cons_drop, List.take_append_drop]
      have hlen : (M.take k).length = k := by rw [List.length_take]; omega
      have hnext := mFall_next n hkM
      rw [← hf] at hnext
      have hrr := H.out.turn (Turn.of_below B3.out []) (by simp)
      rw [hM] at hrr
      obtain ⟨g, cap, N2, ao, c, e1, eN, elt, ele, ecap, e0, eb, es, en, esl, esu⟩ := hrr.look
      rw [← hM, ← HNN.out] at eN
      rw [hlen] at elt e0 eb es en
      subst eN
      have hfb : f.b.length ≤ 1048576 := by
        have h1 := HT.out
        rw [hM, tot_append, tot_cons] at h1
        omega
      obtain ⟨hm1, hm2⟩ := moreOf_is n (f.b.length - f.sure)
      have hst : mStay n f = f.b.take (f.sure + moreOf n (f.b.length - f.sure)) := rfl
      have HNX := Lib.hid hnext
      have HSL := Lib.hid esl
      have HST := Lib.hid hst
      obtain ⟨mo, hmo⟩ : ∃ mo, mo = moreOf n (f.b.length - f.sure) := ⟨_, rfl⟩
      rw [← hmo] at hm1 hm2
      have HMO := Lib.hid hmo
      obtain ⟨nl, hnl⟩ : ∃ nl, nl = f.b.length := ⟨_, rfl⟩
      obtain ⟨su, hsu⟩ : ∃ su, su = f.sure := ⟨_, rfl⟩
      obtain ⟨nm, hnm⟩ : ∃ nm, nm = f.name := ⟨_, rfl⟩
      obtain ⟨nd, hnd⟩ : ∃ nd, nd = f.named := ⟨_, rfl⟩
      rw [← hnl, ← hsu] at hm1 hm2 esu
      rw [← hnl] at eb hfb
      rw [← hsu] at es
      rw [← hnm] at e0
      rw [← hnd] at en
      have HNL := Lib.hid hnl
      have HSU := Lib.hid hsu
      have HNM := Lib.hid hnm
      have HND := Lib.hid hnd
      clear hnext esl hst hf hmo hnl hsu hnm hnd hrr hM hlen hkM
      have hltk : (k : Int) < (N2 : Int) := by omega
      obtain ⟨lo, hlo⟩ : ∃ lo, lo = nl - su := ⟨_, rfl⟩
      rw [← hlo] at hm1 hm2
      have hlo2 : (nl : Int) - (su : Int) = (lo : Int) := by omega
      have HLO := Lib.hid hlo2
      have b2 : lo ≤ 1048576 := by omega
      clear hlo hlo2
      go_upto_if 32 with fail
      go_cut [8] from 15 to 75 (fun v wx => v = .int .i64 (mo : Int) ∧ wx = wr.alloc (.cells #[.string ⟨nm.toArray⟩, .slice ao nl c, .int .i64 (su : Int), .bool nd] 63))
      case first =>
        by_cases hn0 : 0 ≤ n
        · have hm3 : n % ((nl : Int) - (su : Int) + 1) = (mo : Int) := by rw [HLO.out, ← hm1]; congr 1; omega
          clear hm1
          go_wp2_with fail
          go_meet
          exact ⟨by rw [hm3], rfl⟩
        · have hm0 : mo = 0 := by
            rw [show max n 0 = 0 by omega] at hm1
            simp at hm1
            omega
          clear hm1
          subst hm0
          go_wp2_with fail
          go_meet
          exact ⟨rfl, rfl⟩
      case rest =>
        obtain ⟨rfl, rfl⟩ := hcut
        obtain ⟨F, hF⟩ : ∃ F, F = wr.heap.size := ⟨_, rfl⟩
        have hblk := heap_alloc_new wr (.cells #[.string ⟨nm.toArray⟩, .slice ao nl c, .int .i64 (su : Int), .bool nd] 63)
        have t1 : Turn [] wr (wr.alloc (.cells #[.string ⟨nm.toArray⟩, .slice ao nl c, .int .i64 (su : Int), .bool nd] 63)) := Turn.alloc [] wr _
        have hxs : (wr.alloc (.cells #[.string ⟨nm.toArray⟩, .slice ao nl c, .int .i64 (su : Int), .bool nd] 63)).heap.size = F + 1 := by rw [hF]; simp
        rw [← hF] at hblk ⊢
        have HF := Lib.hid hF
        clear e1 e0 eb es en hF
        generalize wr.alloc (.cells #[.string ⟨nm.toArray⟩, .slice ao nl c, .int .i64 (su : Int), .bool nd] 63) = x1 at *
        obtain ⟨v, R, hdr, hRM, hRl⟩ := HBH.out
        have hd := hdr.turn t1 (by simp)
        have hvF : ∀ k, v.ownBlock = some k → k < F := fun k hk => by rw [HF.out]; exact hdr.lt k (by simp [rblk, hk])
        obtain ⟨d0, d1, d2, d3, z0⟩ : x1.cell? ⟨F, 0, none⟩ = some (.string ⟨nm.toArray⟩) ∧ x1.cell? ⟨F, 1, none⟩ = some (.slice ao nl c) ∧ x1.cell? ⟨F, 2, none⟩ = some (.int .i64 (su : Int)) ∧ x1.cell? ⟨F, 3, none⟩ = some (.bool nd) ∧ B ≠ F := by
          refine ⟨by rw [cell_of_row x1 F 0 _ _ _ hblk]; rfl, by rw [cell_of_row x1 F 1 _ _ _ hblk]; rfl, by rw [cell_of_row x1 F 2 _ _ _ hblk]; rfl, by rw [cell_of_row x1 F 3 _ _ _ hblk]; rfl, ?_⟩
          have h1 := HBH.out.lt B (by
            obtain ⟨v, R, hd, hRM, hRl⟩ := HBH.out
            rw [← hRl]
            simp [rblk])
          rw [HF.out]
          omega
        obtain ⟨-, k1, -, z1⟩ := two_cells hd.head
        obtain ⟨ao1, cap1, hv⟩ := rf_slice hd.row
        subst hv
        have HVF := Lib.hid hvF
        have HZ : Hid (∀ x2, Turn (Value.slice ao1 R.length cap1).ownBlock.toList x1 x2 → x2.frozen? ⟨B, 1, none⟩ = false) := Lib.hid (fun x2 t2 => unfrozen_of (t2.heap hd.head (fun hm => hd.apart (by simpa using hm))))
        have hls : (mStay n f).length = su + mo := by
          rw [HST.out, List.length_take, ← HMO.out, ← HNL.out, ← HSU.out]
          have := HLO.out
          omega
        obtain ⟨mm, hmm⟩ : ∃ mm, mm = su + mo := ⟨_, rfl⟩
        rw [← hmm] at hls
        have hmc : mm ≤ c := by
          have h1 := HSL.out.le.1
          have h2 := HLO.out
          rw [← HNL.out] at h1
          omega
        have HWM : Hid (IntKind.i64.wrap ((su : Int) + (mo : Int)) = (mm : Int)) := Lib.hid (by
          rw [IntWalk.i64_in _ (by omega)]
          omega)
        have HM2 : Hid ((su : Int) + (mo : Int) = (mm : Int)) := Lib.hid (by omega)
        have HSF := Lib.hid (slice_front ao nl c mm hmc)
        have HMM := Lib.hid hmm
        have hsm : (su : Int) + (mo : Int) ≤ 1048576 := by have := HLO.out; omega
        have HX := Lib.hid hd
        have HRM := Lib.hid hRM
        have HRL := Lib.hid hRl
        have HT1 := Lib.hid t1
        have HLS := Lib.hid hls
        have HSS : Hid (∀ x2, Turn [] x1 x2 → Sl x2 ao c (mStay n f)) := Lib.hid (fun x2 t2 => by
          have h1 := ((HSL.out.front (f.sure + moreOf n (f.b.length - f.sure))).turn t1 (by simp)).turn t2 (by simp)
          rw [HST.out]
          exact h1)
        have HB1 : Hid (([] : List UInt8).length + (mStay n f).length ≤ 140737488355328) := Lib.hid (by rw [hls, List.length_nil]; omega)
        have HR1 : Hid (∀ x : Rf, R.length + [x].length ≤ 1000000) := Lib.hid (fun x => by
          have h1 := congrArg List.length hRM
          have h2 := mFall_length n (M.take k)
          simp only [List.length_map, List.length_take, List.length_cons, List.length_nil] at h1 h2 ⊢
          omega)
        clear hd hdr hvF hRM hRl t1 hls hmc hblk hmm hxs hn elt ele ecap esu hm2 hfb b2
        obtain ⟨bb, hbb⟩ : ∃ bb : Bool, bb = (decide (mm = 0) && !nd) := ⟨_, rfl⟩
        go_upto_region 9 with fail
        go_cut [51] from 15 to 75 (fun v wx => v = .bool bb ∧ wx = x1)
        case first =>
          by_cases hpos : 0 < mm
          · have p1 : decide ((mm : Int) = 0) = false := by simp; omega
            have p2 : ((mm : Int) == 0) = false := by simp; omega
            rw [← HM2.out] at p1 p2
            have hb0 : bb = false := by rw [hbb]; simp; omega
            clear hbb
            go_wp2_with fail
            go_meet
            exact ⟨by rw [hb0], rfl⟩
          · have q1 : su = 0 := by have := HMM.out; omega
            have q2 : mo = 0 := by have := HMM.out; omega
            have hb0 : bb = !nd := by rw [hbb]; simp; omega
            clear hbb
            subst q1 q2
            go_wp2_with fail
            go_meet
            exact ⟨by rw [hb0], rfl⟩
        case rest =>
        obtain ⟨rfl, hx1⟩ := hcut
        have hx2 := hx1.symm
        clear hx1
        subst hx2
        have HBBB := Lib.hid hbb
        clear hbb
        cases bb with
        | true =>
          clear d0 d1 d2 d3 z1 k1
          go_wp2
          go_roundw
          case rel =>
            refine ⟨k + 1, lb, by omega, by go_num, ?_, B3.out.trans (HT1.out.belowAll.mono B3.out.size), HLB.out⟩
            have h1 := HBBB.out
            have h2 := HNX.out
            simp at h1
            unfold fallen at h2
            rw [if_neg (by rw [HLS.out, ← HND.out]; simp [h1.1, h1.2])] at h2
            rw [h2, Option.toList, List.append_nil]
            exact ⟨_, R, HX.out, HRM.out, HRL.out⟩
          case measure => simp [intOf]; omega
        | false =>
          go_wp2_with fail
          have hwm := HWM.out
          have hBlt : B < x1.heap.size := World.block_lt_of_cell? _ _ k1
          have hBF := z0
          have hsf := HSF.out
          refine Ph.start [24] (fun w' => w'.cell? ⟨B, 1, none⟩ = some (.slice ao1 R.length cap1) ∧ w'.cell? ⟨F, 0, none⟩ = some (.string ⟨nm.toArray⟩) ∧ w'.cell? ⟨F, 1, none⟩ = some (.slice ao nl c) ∧ w'.cell? ⟨F, 2, none⟩ = some (.int .i64 (su : Int))) (by kernel_rfl) ⟨k1, d0, d1, d2⟩ ?_
          intro hS
          refine Ph.take (i := 0) (d := some 52) (v := ?_) rfl (by rfl) (by kernel_rfl) (by kernel_rfl) (by kernel_rfl) (by kernel_rfl) (fun _ _ _ h => h) (by rfl) hS ?_ ?_
          rotate_left
          · intro x hx
            try dsimp only at hx
            go_simp
            try with_reducible rfl
          simp only [Act.put, List.setIfInBounds_toArray, List.set_cons_zero, List.set_cons_succ]
          refine Ph.take (i := 1) (d := some 53) (v := ?_) rfl (by rfl) (by kernel_rfl) (by kernel_rfl) (by kernel_rfl) (by kernel_rfl) (fun _ _ _ h => h) (by rfl) hS ?_ ?_
          rotate_left
          · intro x hx
            try dsimp only at hx
            go_simp
            try with_reducible rfl
          simp only [Act.put, List.setIfInBounds_toArray, List.set_cons_zero, List.set_cons_succ]
          refine Ph.take (i := 2) (d := some 54) (v := ?_) rfl (by rfl) (by kernel_rfl) (by kernel_rfl) (by kernel_rfl) (by kernel_rfl) (fun _ _ _ h => h) (by rfl) hS ?_ ?_
          rotate_left
          · intro x hx
            try dsimp only at hx
            go_simp
            try with_reducible rfl
          simp only [Act.put, List.setIfInBounds_toArray, List.set_cons_zero, List.set_cons_succ]
          refine Ph.take (i := 3) (d := some 55) (v := ?_) rfl (by rfl) (by kernel_rfl) (by kernel_rfl) (by kernel_rfl) (by kernel_rfl) (fun _ _ _ h => h) (by rfl) hS ?_ ?_
          rotate_left
          · intro x hx
            try dsimp only at hx
            go_simp
            try with_reducible rfl
          simp only [Act.put, List.setIfInBounds_toArray, List.set_cons_zero, List.set_cons_succ]
          refine Ph.take (i := 4) (d := some 56) (v := ?_) rfl (by rfl) (by kernel_rfl) (by kernel_rfl) (by kernel_rfl) (by kernel_rfl) (fun _ _ _ h => h) (by rfl) hS ?_ ?_
          rotate_left
          · intro x hx
            try dsimp only at hx
            go_simp
            try with_reducible rfl
          simp only [Act.put, List.setIfInBounds_toArray, List.set_cons_zero, List.set_cons_succ]
          refine Ph.take (i := 5) (d := some 57) (v := ?_) rfl (by rfl) (by kernel_rfl) (by kernel_rfl) (by kernel_rfl) (by kernel_rfl) (fun _ _ _ h => h) (by rfl) hS ?_ ?_
          rotate_left
          · intro x hx
            try dsimp only at hx
            go_simp
            try with_reducible rfl
          simp only [Act.put, List.setIfInBounds_toArray, List.set_cons_zero, List.set_cons_succ]
          refine Ph.take (i := 6) (d := some 58) (v := ?_) rfl (by rfl) (by kernel_rfl) (by kernel_rfl) (by kernel_rfl) (by kernel_rfl) (fun _ _ _ h => h) (by rfl) hS ?_ ?_
          rotate_left
          · intro x hx
            try dsimp only at hx
            go_simp
            try with_reducible rfl
          simp only [Act.put, List.setIfInBounds_toArray, List.set_cons_zero, List.set_cons_succ]
          refine Ph.take (i := 7) (d := some 59) (v := ?_) rfl (by rfl) (by kernel_rfl) (by kernel_rfl) (by kernel_rfl) (by kernel_rfl) (fun _ _ _ h => h) (by rfl) hS ?_ ?_
          rotate_left
          · intro x hx
            try dsimp only at hx
            go_simp
            try with_reducible rfl
          simp only [Act.put, List.setIfInBounds_toArray, List.set_cons_zero, List.set_cons_succ]
          refine Ph.take (i := 8) (d := some 60) (v := ?_) rfl (by rfl) (by kernel_rfl) (by kernel_rfl) (by kernel_rfl) (by kernel_rfl) (fun _ _ _ h => h) (by rfl) hS ?_ ?_
          rotate_left
          · intro x hx
            try dsimp only at hx
            go_simp
            try with_reducible rfl
          simp only [Act.put, List.setIfInBounds_toArray, List.set_cons_zero, List.set_cons_succ]
          refine Ph.take (i := 9) (d := some 61) (v := ?_) rfl (by rfl) (by kernel_rfl) (by kernel_rfl) (by kernel_rfl) (by kernel_rfl) (fun _ _ _ h => h) (by rfl) hS ?_ ?_
          rotate_left
          · intro x hx
            try dsimp only at hx
            go_simp
            try with_reducible rfl
          simp only [Act.put, List.setIfInBounds_toArray, List.set_cons_zero, List.set_cons_succ]
          refine Ph.take (i := 10) (d := some 62) (v := ?_) rfl (by rfl) (by kernel_rfl) (by kernel_rfl) (by kernel_rfl) (by kernel_rfl) (fun _ _ _ h => h) (by rfl) hS ?_ ?_
          rotate_left
          · intro x hx
            try dsimp only at hx
            go_simp
            try with_reducible rfl
          simp only [Act.put, List.setIfInBounds_toArray, List.set_cons_zero, List.set_cons_succ]
          refine Ph.take (i := 11) (d := some 63) (v := ?_) rfl (by rfl) (by kernel_rfl) (by kernel_rfl) (by kernel_rfl) (by kernel_rfl) (fun _ _ _ h => h) (by rfl) hS ?_ ?_
          rotate_left
          · intro x hx
            try dsimp only at hx
            go_simp
            try with_reducible rfl
          simp only [Act.put, List.setIfInBounds_toArray, List.set_cons_zero, List.set_cons_succ]
          refine Ph.take (i := 12) (d := some 64) (v := ?_) rfl (by rfl) (by kernel_rfl) (by kernel_rfl) (by kernel_rfl) (by kernel_rfl) (fun _ _ _ h => h) (by rfl) hS ?_ ?_
          rotate_left
          · intro x hx
            try dsimp only at hx
            go_simp
            try with_reducible rfl
          simp only [Act.put, List.setIfInBounds_toArray, List.set_cons_zero, List.set_cons_succ]
          refine Ph.take (i := 13) (d := some 65) (v := ?_) rfl (by rfl) (by kernel_rfl) (by kernel_rfl) (by kernel_rfl) (by kernel_rfl) (fun _ _ _ h => h) (by rfl) hS ?_ ?_
          rotate_left
          · intro x hx
            try dsimp only at hx
            go_simp
            try with_reducible rfl
          simp only [Act.put, List.setIfInBounds_toArray, List.set_cons_zero, List.set_cons_succ]
          refine Ph.take (i := 15) (d := some 67) (v := ?_) rfl (by rfl) (by kernel_rfl) (by kernel_rfl) (by kernel_rfl) (by kernel_rfl) (fun _ _ _ h => h) (by rfl) hS ?_ ?_
          rotate_left
          · intro x hx
            try dsimp only at hx
            go_simp
            try with_reducible rfl
          simp only [Act.put, List.setIfInBounds_toArray, List.set_cons_zero, List.set_cons_succ]
          refine Ph.take (i := 16) (d := some 68) (v := ?_) rfl (by rfl) (by kernel_rfl) (by kernel_rfl) (by kernel_rfl) (by kernel_rfl) (fun _ _ _ h => h) (by rfl) hS ?_ ?_
          rotate_left
          · intro x hx
            try dsimp only at hx
            go_simp
            try with_reducible rfl
          simp only [Act.put, List.setIfInBounds_toArray, List.set_cons_zero, List.set_cons_succ]
          refine Ph.take (i := 17) (d := some 69) (v := ?_) rfl (by rfl) (by kernel_rfl) (by kernel_rfl) (by kernel_rfl) (by kernel_rfl) (fun _ _ _ h => h) (by rfl) hS ?_ ?_
          rotate_left
          · intro x hx
            try dsimp only at hx
            go_simp
            try with_reducible rfl
          simp only [Act.put, List.setIfInBounds_toArray, List.set_cons_zero, List.set_cons_succ]
          refine Ph.take (i := 18) (d := some 70) (v := ?_) rfl (by rfl) (by kernel_rfl) (by kernel_rfl) (by kernel_rfl) (by kernel_rfl) (fun _ _ _ h => h) (by rfl) hS ?_ ?_
          rotate_left
          · intro x hx
            try dsimp only at hx
            go_simp
            try with_reducible rfl
          simp only [Act.put, List.setIfInBounds_toArray, List.set_cons_zero, List.set_cons_succ]
          refine Ph.one (i := 14) (by kernel_rfl) rfl ?_
          intro K hK
          refine step_append_b (by rfl) (.const (.slice none 0 0)) (.tmp 65) (by rfl) (.slice none 0 0) [] (by rfl) (World.ownsRow_nil _ _ _ _) ao c (mStay n f) (by rw [HLS.out]; rfl) (HSS.out _ (Turn.drew _ _)) HB1.out ?_
          intro v1 w2 ho1 hg1 hf1
          have T2 : Turn [] x1 w2 := Turn.trans (Turn.drew [] _) (Turn.grown (l := []) hg1 (by intro k hk; cases hk)) (by simp)
          rw [List.nil_append] at ho1
          obtain ⟨ao2, c2, hv1, hs1⟩ := row_slice ho1
          have HF1 : Hid (∀ A, ao2 = some A → x1.heap.size ≤ A.block ∧ A.block < w2.heap.size) := Lib.hid (fun A hA => by
            subst hA
            subst hv1
            have h1 := (ho1.lt A.block rfl).2
            rcases hf1 with e | e <;> simp [Value.ownBlock] at e
            exact ⟨by rw [e]; exact Nat.le_refl _, h1⟩)
          have k1b := T2.cell k1 (by simp)
          have d0b := T2.cell d0 (by simp)
          have d1b := T2.cell d1 (by simp)
          have d2b := T2.cell d2 (by simp)
          have HT2 := Lib.hid T2
          have HS1 := Lib.hid hs1
          clear T2 hs1 ho1 hg1 hf1 hS
          subst hv1
          refine hK _ _ ⟨k1b, d0b, d1b, d2b⟩ (fun hS => ?_)
          clear hK K
          change Ph _ _ _ _ _ _ _ _ (Act.put _ (some 66) _) _
          simp only [Act.put, List.setIfInBounds_toArray, List.set_cons_zero, List.set_cons_succ]
          refine Ph.take (i := 19) (d := some 71) (v := ?_) rfl (by rfl) (by kernel_rfl) (by kernel_rfl) (by kernel_rfl) (by kernel_rfl) (fun _ _ _ h => h) (by rfl) hS ?_ ?_
          rotate_left
          · intro x hx
            try dsimp only at hx
            go_simp
            try with_reducible rfl
          simp only [Act.put, List.setIfInBounds_toArray, List.set_cons_zero, List.set_cons_succ]
          refine Ph.one (i := 20) (by kernel_rfl) rfl ?_
          intro K hK
          rw [if_pos (by rfl)]
          go_simp
          have tA := fun o => Turn.alloc [] w2 o
          refine hK _ _ ⟨(tA _).cell k1b (by simp), (tA _).cell d0b (by simp), (tA _).cell d1b (by simp), (tA _).cell d2b (by simp)⟩ (fun hS => ?_)
          clear hK K hS tA
          refine Ph.one (i := 21) (by kernel_rfl) rfl ?_
          intro K hK
          refine step_append_rf (by rfl) (.tmp 56) (.tmp 72) (by rfl) (.slice ao1 R.length cap1) R (by rfl) (ownsRow_turn HX.out.row (HT2.out.trans (Turn.alloc [] _ _) (by simp)) (by simp)) ⟨w2.heap.size, 0, none⟩ 1 [⟨⟨nm, mStay n f, mm, true⟩, ao2, c2⟩] (by rfl) (rf_new_cells w2 ⟨⟨nm, mStay n f, mm, true⟩, ao2, c2⟩) (HR1.out _) ?_
          intro v2 w3 ho2 hg2 hf2
          have T3 : Turn (Value.slice ao1 R.length cap1).ownBlock.toList w2 w3 := (Turn.alloc _ w2 _).trans (Turn.grown hg2 (fun k hk => .inl (by simp [hk]))) (fun i hi => .inl hi)
          have HF2 : Hid (∀ k, v2.ownBlock = some k → (Value.slice ao1 R.length cap1).ownBlock = some k ∨ w2.heap.size ≤ k) := Lib.hid (fun k hk => by
            rcases hf2 with e | e <;> rw [hk] at e
            · exact .inl e.symm
            · have e2 := Option.some.inj e
              simp at e2
              exact .inr (by omega))
          have hB1 : B ∉ (Value.slice ao1 R.length cap1).ownBlock.toList := fun hm => HX.out.apart (by simpa using hm)
          have hF1 : F ∉ (Value.slice ao1 R.length cap1).ownBlock.toList := fun hm => Nat.lt_irrefl F (HVF.out F (by simpa using hm))
          have T13 := (HT2.out.mono (l' := (Value.slice ao1 R.length cap1).ownBlock.toList) (by simp)).trans T3 (fun i hi => .inl hi)
          have k1c := T13.cell k1 hB1
          have d0c := T13.cell d0 hF1
          have d1c := T13.cell d1 hF1
          have d2c := T13.cell d2 hF1
          have z1c := HZ.out _ T13
          obtain ⟨ao3, cp3, hv2⟩ := rf_slice ho2
          have HT3 := Lib.hid T3
          have HO2 := Lib.hid ho2
          clear T3 T13 ho2 hg2 hf2 hB1 hF1 k1b d0b d1b d2b
          subst hv2
          refine hK _ _ ⟨k1c, d0c, d1c, d2c⟩ (fun hS => ?_)
          clear hK K
          change Ph _ _ _ _ _ _ _ _ (Act.put _ (some 73) _) _
          simp only [Act.put, List.setIfInBounds_toArray, List.set_cons_zero, List.set_cons_succ]
          refine Ph.one (i := 22) (by kernel_rfl) rfl ?_
          intro K hK
          rw [if_pos (by rfl)]
          go_simp
          refine hK _ _ ⟨k1c, d0c, d1c, d2c⟩ (fun hS => ?_)
          clear hK K
          refine Ph.take (i := 23) (d := some 75) (v := ?_) rfl (by rfl) (by kernel_rfl) (by kernel_rfl) (by kernel_rfl) (by kernel_rfl) (fun _ _ _ h => h) (by rfl) hS ?_ ?_
          rotate_left
          · intro x hx
            try dsimp only at hx
            go_simp
            try with_reducible rfl
          simp only [Act.put, List.setIfInBounds_toArray, List.set_cons_zero, List.set_cons_succ]
          refine Ph.tardy (i := 24) (by kernel_rfl) (by kernel_rfl) rfl ?_
          intro K hK
          rw [if_pos (by rfl)]
          go_simp
          refine hK _ _ (Ph.done (by kernel_rfl) ?_ _)
          clear hK K hS
          go_wp2
          go_roundw
          case rel =>
            have hlsL := HLS.out
            have hp := fall_push (x := ⟨⟨nm, mStay n f, mm, true⟩, ao2, c2⟩) HX.out HT2.out HF1.out HS1.out HT3.out HO2.out HF2.out (by show mm ≤ (mStay n f).length; omega) (by
              show tot (R.map Rf.f) + (mStay n f).length ≤ 1048576
              rw [HRM.out]
              have h1 := mFall_tot n (M.take (k + 1))
              have h2 := take_tot M (k + 1)
              rw [HNX.out, tot_append] at h1
              have h3 := HT.out
              have h4 := HBBB.out
              unfold fallen at h1
              by_cases h5 : 0 < (mStay n f).length ∨ f.named = true
              · rw [if_pos h5] at h1
                simp only [Option.toList, tot_cons, tot_nil] at h1
                omega
              · have : (mStay n f).length = 0 := by omega
                have h6 := mFall_tot n (M.take k)
                have h7 := take_tot M k
                omega)
            rw [show (R ++ [(⟨⟨nm, mStay n f, mm, true⟩, ao2, c2⟩ : Rf)]).length = R.length + 1 by simp] at hp
            refine ⟨k + 1, _, by omega, by go_num, ⟨_, _, hp.1, ?_, rfl⟩, ?_, ?_⟩
            · rw [List.map_append, HRM.out, HNX.out]
              have h4 := HBBB.out
              have h5 : 0 < (mStay n f).length ∨ f.named = true := by
                rw [hlsL, ← HND.out]
                cases nd
                · simp at h4
                  exact .inl (by omega)
                · exact .inr rfl
              unfold fallen
              rw [if_pos h5, hlsL, HNM.out]
              rfl
            · exact B3.out.trans (((HT1.out.mono (by simp)).trans hp.2.1 (fun i hi => .inl hi)).below (fun i hi => HLB.out i (by rw [← HRL.out]; exact hi)) B3.out.size)
            · intro i hi
              rcases hp.2.2 i hi with h1 | h1
              · exact HLB.out i (by rw [← HRL.out]; exact h1)
              · have := HT1.out.size
                have := B3.out.size
                omega
          case measure => simp [intOf]; omega
    · obtain ⟨aoL, capL, cL⟩ := (H.out.turn (Turn.of_below B3.out []) (by simp)).len
      rw [← HNN.out] at cL
      have hkk : k = N := by omega
      have HKK := Lib.hid hkk
      clear hkk
      go_wp2
      go_ret
      refine ⟨B, lb, rfl, ?_, B3.out, HLB.out⟩
      have h1 := HBH.out
      rw [HKK.out, HNN.out, List.take_length] at h1
      exact h1

end Go.Proofs.Ytlcilbbgfilefaa
