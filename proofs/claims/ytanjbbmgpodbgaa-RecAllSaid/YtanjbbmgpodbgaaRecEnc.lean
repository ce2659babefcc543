/-
  The walk of rec's Encode.
-/
import Derived.Test.YtanjbbmgpodbgaaRecE
import Derived.Test.YtanjbbmgpodbgaaFace
namespace Go.Proofs.Ytanjbbmgpodbgaa
open Go.RowKit

/-- In the midst of Encode: the record's box, the Out and what it has. -/
structure Em (w0 : World) (q p : Nat) (cs : Array Value) (l : List UInt8) (w : World) : Prop where
  box : w.heap[q]? = some (.cells cs 38)
  out : OutIs w ⟨p, 0, none⟩ l
  turn : Turn [] w0 w
  hqp : q ≠ p
  lo : w0.heap.size ≤ p
  new : ∀ ao n c A, w.cell? ⟨p, 0, none⟩ = some (.slice ao n c) → ao = some A → w0.heap.size ≤ A.block

theorem Em.step {w0 : World} {q p : Nat} {cs : Array Value} {l l' : List UInt8} {w w' : World} (h : Em w0 q p cs l w) (o : OutIs w' ⟨p, 0, none⟩ l') (n : OnlyN ⟨p, 0, none⟩ w w') : Em w0 q p cs l' w' :=
  ⟨n.turn.heap h.box (by simpa using h.hqp), o, h.turn.trans n.turn (fun i hi => .inr (by simp at hi; have := h.lo; omega)), h.hqp, h.lo, fun ao m c A h1 h2 => Nat.le_trans h.turn.size (n.fresh ao m c A h1 h2)⟩

theorem Em.still {w0 : World} {q p : Nat} {cs : Array Value} {l : List UInt8} {w w' : World} (h : Em w0 q p cs l w) (t : Turn [] w w') : Em w0 q p cs l w' :=
  ⟨t.heap h.box (by simp), h.out.alloc t.belowAll, h.turn.trans t (by simp), h.hqp, h.lo, fun ao n c A h1 h2 => by
    obtain ⟨a, k, h3, -⟩ := h.out
    have h4 := t.cell h3 (by simp)
    rw [h4] at h1
    injection h1 with h1
    injection h1 with e1 e2 e3
    exact h.new a _ k A h3 (e1.trans h2)⟩

theorem Em.ends {w0 : World} {q p : Nat} {cs : Array Value} {l : List UInt8} {w : World} (h : Em w0 q p cs l w) : ∃ ao c, w.cell? ⟨p, 0, none⟩ = some (.slice ao l.length c) ∧ w.ownsRow w0.heap.size 5 1 (.slice ao l.length c) l.length (u8s l) := by
  obtain ⟨ao, c, h1, h2, h3, h4⟩ := h.out
  refine ⟨ao, c, h1, ownsRow_base h4 (fun k hk => ?_)⟩
  rcases h4.2 with ⟨hv, -⟩ | ⟨g, cap, cur, hv, -⟩
  · rw [hv] at hk; cases hk
  · injection hv with e1 e2 e3
    have := h.new ao _ c ⟨g, 0, none⟩ h1 e1
    rw [e1] at hk
    injection hk with hk
    have hk : g = k := hk
    omega

theorem hasV_ways (r : RecV) : (hasV r.kind = ⟨true, false, false, false⟩ ∧ recTail r = longB r.id) ∨ (hasV r.kind = ⟨false, true, false, false⟩ ∧ recTail r = [if r.yes then 1 else 0])
    ∨ (hasV r.kind = ⟨false, false, true, false⟩ ∧ recTail r = smallB r.parts.length ++ partsBy r.parts) ∨ (hasV r.kind = ⟨false, false, false, true⟩ ∧ recTail r = smallB r.puts.length ++ putsBy r.puts)
    ∨ (hasV r.kind = ⟨false, false, false, false⟩ ∧ recTail r = []) := by
  unfold hasV recTail
  have hk : r.kind = 2 ∨ r.kind = 4 ∨ r.kind = 5 ∨ r.kind = 6 ∨ r.kind = 7 ∨ r.kind = 8 ∨ r.kind = 9 ∨ (r.kind ≠ 2 ∧ r.kind ≠ 4 ∧ r.kind ≠ 5 ∧ r.kind ≠ 6 ∧ r.kind ≠ 7 ∧ r.kind ≠ 8 ∧ r.kind ≠ 9) := by omega
  rcases hk with h | h | h | h | h | h | h | ⟨h2, h4, h5, h6, h7, h8, h9⟩
  · left; simp [h]
  · right; right; right; left; simp [h]
  · right; left; simp [h]
  · right; right; left; simp [h]
  · right; right; right; left; simp [h]
  · right; right; left; simp [h]
  · right; right; left; simp [h]
  · right; right; right; right; simp [h2, h4, h5, h6, h7, h8, h9]

set_option maxHeartbeats 4000000 in
set_option maxRecDepth 100000 in
theorem encode_calls (r : RecV) (w : World) (ap : Option Addr) (cp : Nat) (aq : Option Addr) (cq : Nat) (hp : Il w ap cp r.parts) (hq : Ps w aq cq r.puts) (hf : r.fit) :
    Calls Try.prog 35 #[.agg (r.cells ap cp aq cq)] w fun e w' => ∃ v, e = .returned v ∧ (recB r = true → w'.ownsRow w.heap.size 5 1 v (recBytes r).length (u8s (recBytes r))) ∧ (recB r = false → v = .slice none 0 0) ∧ Turn [] w w' := by
  have CK := Lib.hid (fun wx (tx : Turn [] w wx) => kindRecord_calls r (hp.turn tx) (hq.turn tx) hf.2.1 hf.2.2)
  cases hR : recB r with
  | false =>
    rw [hR] at CK
    obtain ⟨k, t, d, y, P, Q⟩ := r
    unfold RecV.cells at CK ⊢
    dsimp only at CK ⊢
    obtain ⟨np, hnp⟩ : ∃ n, n = P.length := ⟨_, rfl⟩
    obtain ⟨nq, hnq⟩ : ∃ n, n = Q.length := ⟨_, rfl⟩
    rw [← hnp, ← hnq] at CK ⊢
    clear hp hq hf hR hnp hnq
    go_enter Try.func35, Try.ntmps35
    go_wp2_with fail
    refine (CK.out _ (Turn.alloc [] w _)).mono ?_
    rintro e w2 ⟨rfl, t2⟩
    have T2 := Lib.hid ((Turn.alloc [] w _).trans t2 (by simp))
    clear t2 CK
    go_wp2
    go_ret
    exact ⟨_, rfl, by simp, fun _ => rfl, T2.out⟩
  | true =>
    have HS := recB_says hR
    have HW := hasV_ways r
    have CH := Lib.hid (fun w => hasOf_calls r.kind w)
    rw [hR] at CK
    have HB : Hid (recBytes r = smallB r.kind ++ longB r.tid ++ recTail r) := Lib.hid rfl
    have HP := Lib.hid hp
    have HQ := Lib.hid hq
    obtain ⟨L, hL⟩ : ∃ L, L = recBytes r := ⟨_, rfl⟩
    have HLL := Lib.hid hL
    rw [← hL] at HB ⊢
    obtain ⟨tl, htl⟩ : ∃ tl, tl = recTail r := ⟨_, rfl⟩
    rw [← htl] at HB HW
    obtain ⟨hv, hhv⟩ : ∃ hv, hv = hasV r.kind := ⟨_, rfl⟩
    rw [← hhv] at CH HW
    obtain ⟨k, t, d, y, P, Q⟩ := r
    dsimp only at HW HS HB CH HP HQ
    obtain ⟨-, -, -, -, -, -, -, -, hpn, -, hqn, hqs⟩ := HS
    have HSZ : Hid (∀ i, i < Q.length → (Q.getD i putNone).1.size ≤ 1000000 ∧ (Q.getD i putNone).2.size ≤ 1000000) := Lib.hid (fun i hi => by have := putB_sizes (hqs i hi); omega)
    have CP : Hid (∀ wx p l, Turn [] w wx → OutIs wx ⟨p, 0, none⟩ l → l.length ≤ 1000000 → Calls Try.prog 53 #[.pointer (some ⟨p, 0, none⟩), .slice ap P.length cp] wx fun e w' => e = .returned (.tuple #[]) ∧ OutIs w' ⟨p, 0, none⟩ (l ++ (smallB P.length ++ partsBy P)) ∧ OnlyN ⟨p, 0, none⟩ wx w') :=
      Lib.hid (fun wx p l tx o h => layParts_calls p 0 l o (HP.out.turn tx) h (by omega))
    have CQ : Hid (∀ wx p l, Turn [] w wx → OutIs wx ⟨p, 0, none⟩ l → l.length ≤ 1000000 → Calls Try.prog 54 #[.pointer (some ⟨p, 0, none⟩), .slice aq Q.length cq] wx fun e w' => e = .returned (.tuple #[]) ∧ OutIs w' ⟨p, 0, none⟩ (l ++ (smallB Q.length ++ putsBy Q)) ∧ OnlyN ⟨p, 0, none⟩ wx w') :=
      Lib.hid (fun wx p l tx o h => layPuts_calls p 0 l o (HQ.out.turn tx) h (by omega) HSZ.out)
    unfold RecV.cells at CK ⊢
    dsimp only at CK ⊢
    obtain ⟨zp, hzp⟩ : ∃ z, z = smallB P.length ++ partsBy P := ⟨_, rfl⟩
    obtain ⟨zq, hzq⟩ : ∃ z, z = smallB Q.length ++ putsBy Q := ⟨_, rfl⟩
    rw [← hzp] at HW CP
    rw [← hzq] at HW CQ
    obtain ⟨np, hnp⟩ : ∃ n, n = P.length := ⟨_, rfl⟩
    obtain ⟨nq, hnq⟩ : ∃ n, n = Q.length := ⟨_, rfl⟩
    rw [← hnp, ← hnq] at CK ⊢
    rw [← hnp] at CP
    rw [← hnq] at CQ
    clear hp hq hf hR hnp hnq hL htl hhv hpn hqn hqs hzp hzq HSZ HP HQ HLL
    obtain ⟨cs, hcs⟩ : ∃ cs : Array Value, cs = #[.int .i64 k, .int .i64 t, .int .i64 d, .bool y, .slice ap np cp, .slice aq nq cq] := ⟨_, rfl⟩
    have HC := Lib.hid hcs
    clear hcs
    go_enter Try.func35, Try.ntmps35
    go_wp2_with fail
    refine (CK.out _ (Turn.alloc [] w _)).mono ?_
    rintro e w2 ⟨rfl, t2⟩
    have T2 := Lib.hid ((Turn.alloc [] w _).trans t2 (by simp))
    have b2 := t2.heap (heap_alloc_new w _) (by simp)
    rw [← HC.out] at b2
    have e2 : Hid (∀ o, Em w w.heap.size w2.heap.size cs [] (w2.alloc (.cells #[.slice none 0 0] o))) := Lib.hid (fun o =>
      ⟨(Turn.alloc [] w2 _).heap b2 (by simp), OutIs.new w2 o, T2.out.trans (Turn.alloc [] w2 _) (by simp), by have := lt_of_heap b2; omega, T2.out.size, fun ao n c A h1 h2 => by
        rw [World.cell?_alloc_at (hn := rfl)] at h1
        injection h1 with h1
        injection h1 with f1 f2 f3
        rw [← f1] at h2
        cases h2⟩)
    have x0 : ∀ o, (w2.alloc o).cell? ⟨w.heap.size, 0, none⟩ = some (.int .i64 k) := fun o => by rw [cell_of_row _ _ _ _ _ _ ((Turn.alloc [] w2 _).heap b2 (by simp)), HC.out]; rfl
    clear t2 CK b2
    go_wp2_with fail
    refine (small_out w2.heap.size 0 [] k _ (e2.out _).out (by simp)).mono ?_
    rintro e w3 ⟨rfl, o3, n3⟩
    have E3 := Lib.hid ((e2.out _).step o3 n3)
    have x1 : w3.cell? ⟨w.heap.size, 1, none⟩ = some (.int .i64 t) := by rw [cell_of_row _ _ _ _ _ _ E3.out.box, HC.out]; rfl
    clear o3 n3 x0 e2
    go_wp2_with fail
    refine (long_out w2.heap.size 0 _ t _ E3.out.out (by simp [smallB_len])).mono ?_
    rintro e w4 ⟨rfl, o4, n4⟩
    have E4 := Lib.hid (E3.out.step o4 n4)
    have x0 : w4.cell? ⟨w.heap.size, 0, none⟩ = some (.int .i64 k) := by rw [cell_of_row _ _ _ _ _ _ E4.out.box, HC.out]; rfl
    clear o4 n4 x1 E3
    go_wp2_with fail
    refine (CH.out _).mono ?_
    rintro e w5 ⟨rfl, t5⟩
    have E5 := Lib.hid (E4.out.still t5)
    obtain ⟨l5, hl5⟩ : ∃ l5, l5 = [] ++ smallB k ++ longB t := ⟨_, rfl⟩
    have h5 : l5.length ≤ 1000000 := by rw [hl5]; simp [smallB_len, longB_len]
    rw [← hl5] at E5
    rw [List.nil_append] at hl5
    rw [← hl5] at HB
    have E6 : Hid (∀ o, Em w w.heap.size w2.heap.size cs l5 (w5.alloc o)) := Lib.hid (fun o => E5.out.still (Turn.alloc [] w5 o))
    clear t5 x0 E4 CH hl5
    have HLT : Hid (w5.heap.size ≠ w2.heap.size) := Lib.hid (by
      obtain ⟨a, c, hc, -⟩ := E5.out.out
      have : w2.heap.size < w5.heap.size := World.block_lt_of_cell? _ _ hc
      omega)
    rcases HW with ⟨rfl, rfl⟩ | ⟨rfl, rfl⟩ | ⟨rfl, rfl⟩ | ⟨rfl, rfl⟩ | ⟨rfl, rfl⟩
    · unfold HasV.cells
      have x2 : ∀ o, (w5.alloc o).cell? ⟨w.heap.size, 2, none⟩ = some (.int .i64 d) := fun o => by rw [cell_of_row _ _ _ _ _ _ (E6.out o).box, HC.out]; rfl
      go_wp2_with fail
      refine (long_out w2.heap.size 0 _ d _ (E6.out _).out (by omega)).mono ?_
      rintro e w7 ⟨rfl, o7, n7⟩
      have E7 := Lib.hid ((E6.out _).step o7 n7)
      have R7 := n7.turn.heap (heap_alloc_new w5 _) (by simpa using HLT.out)
      have g1 : w7.cell? ⟨w5.heap.size, 1, none⟩ = some (.bool false) := by rw [cell_of_row _ _ _ _ _ _ R7]; rfl
      have g2 : w7.cell? ⟨w5.heap.size, 2, none⟩ = some (.bool false) := by rw [cell_of_row _ _ _ _ _ _ R7]; rfl
      have g3 : w7.cell? ⟨w5.heap.size, 3, none⟩ = some (.bool false) := by rw [cell_of_row _ _ _ _ _ _ R7]; rfl
      rw [← HB.out] at E7
      obtain ⟨ao, c, hc, hw⟩ := E7.out.ends
      have HWW := Lib.hid hw
      clear o7 n7 x2 R7 hw
      go_wp2
      go_ret
      exact ⟨_, rfl, fun _ => HWW.out, by simp, E7.out.turn⟩
    · unfold HasV.cells
      have x2 : ∀ o, (w5.alloc o).cell? ⟨w.heap.size, 3, none⟩ = some (.bool y) := fun o => by rw [cell_of_row _ _ _ _ _ _ (E6.out o).box, HC.out]; rfl
      go_wp2_with fail
      refine (truth_out w2.heap.size 0 _ y _ (E6.out _).out (by omega)).mono ?_
      rintro e w7 ⟨rfl, o7, n7⟩
      have E7 := Lib.hid ((E6.out _).step o7 n7)
      have R7 := n7.turn.heap (heap_alloc_new w5 _) (by simpa using HLT.out)
      have g2 : w7.cell? ⟨w5.heap.size, 2, none⟩ = some (.bool false) := by rw [cell_of_row _ _ _ _ _ _ R7]; rfl
      have g3 : w7.cell? ⟨w5.heap.size, 3, none⟩ = some (.bool false) := by rw [cell_of_row _ _ _ _ _ _ R7]; rfl
      rw [← HB.out] at E7
      obtain ⟨ao, c, hc, hw⟩ := E7.out.ends
      have HWW := Lib.hid hw
      clear o7 n7 x2 R7 hw
      go_wp2
      go_ret
      exact ⟨_, rfl, fun _ => HWW.out, by simp, E7.out.turn⟩
    · unfold HasV.cells
      have x2 : ∀ o, (w5.alloc o).cell? ⟨w.heap.size, 4, none⟩ = some (.slice ap np cp) := fun o => by rw [cell_of_row _ _ _ _ _ _ (E6.out o).box, HC.out]; rfl
      go_wp2_with fail
      refine (CP.out _ w2.heap.size l5 (E6.out _).turn (E6.out _).out h5).mono ?_
      rintro e w7 ⟨rfl, o7, n7⟩
      have E7 := Lib.hid ((E6.out _).step o7 n7)
      have R7 := n7.turn.heap (heap_alloc_new w5 _) (by simpa using HLT.out)
      have g3 : w7.cell? ⟨w5.heap.size, 3, none⟩ = some (.bool false) := by rw [cell_of_row _ _ _ _ _ _ R7]; rfl
      rw [← HB.out] at E7
      obtain ⟨ao, c, hc, hw⟩ := E7.out.ends
      have HWW := Lib.hid hw
      clear o7 n7 x2 R7 hw
      go_wp2
      go_ret
      exact ⟨_, rfl, fun _ => HWW.out, by simp, E7.out.turn⟩
    · unfold HasV.cells
      have x2 : ∀ o, (w5.alloc o).cell? ⟨w.heap.size, 5, none⟩ = some (.slice aq nq cq) := fun o => by rw [cell_of_row _ _ _ _ _ _ (E6.out o).box, HC.out]; rfl
      go_wp2_with fail
      refine (CQ.out _ w2.heap.size l5 (E6.out _).turn (E6.out _).out h5).mono ?_
      rintro e w7 ⟨rfl, o7, n7⟩
      have E7 := Lib.hid ((E6.out _).step o7 n7)
      rw [← HB.out] at E7
      obtain ⟨ao, c, hc, hw⟩ := E7.out.ends
      have HWW := Lib.hid hw
      clear o7 n7 x2 hw
      go_wp2
      go_ret
      exact ⟨_, rfl, fun _ => HWW.out, by simp, E7.out.turn⟩
    · unfold HasV.cells
      rw [List.append_nil] at HB
      rw [← HB.out] at E6
      obtain ⟨ao, c, hc, hw⟩ := (E6.out (.cells #[.bool false, .bool false, .bool false, .bool false] 69)).ends
      have HWW := Lib.hid hw
      clear hw
      go_wp2
      go_ret
      exact ⟨_, rfl, fun _ => HWW.out, by simp, (E6.out _).turn⟩

end Go.Proofs.Ytanjbbmgpodbgaa
