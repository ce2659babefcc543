/-
  What rec's Encode lays: what records of a kind have, parts, puts, the whole.
-/
import Derived.Test.YtanjbbmgpodbgaaRj
import Derived.Test.YtanjbbmgpodbgaaBegun
namespace Go.Proofs.Ytanjbbmgpodbgaa
open Go.RowKit

theorem Il.only {p : Addr} {w w' : World} {ao : Option Addr} {c : Nat} {l : List Int} (h : Il w ao c l) (ho : Only p w w') {v : Value} (hp : w.cell? p = some v) (hv : ∀ n, v ≠ .int .i64 n) : Il w' ao c l := by
  rcases h with h | ⟨A, hA, h1, h2, hc, hb⟩
  · exact .inl h
  · refine .inr ⟨A, hA, h1, h2, fun i hi => ?_, hb⟩
    have hu := hc i hi
    rw [ho.cell _ (World.block_lt_of_cell? _ _ hu) (by
      intro e
      rw [e, hp] at hu
      exact hv _ (Option.some.inj hu))]
    exact hu

theorem Ps.only {p : Addr} {w w' : World} {ao : Option Addr} {c : Nat} {l : List (ByteArray × ByteArray)} (h : Ps w ao c l) (ho : Only p w w') {v : Value} (hp : w.cell? p = some v) (hv : ∀ n, v ≠ .string n) : Ps w' ao c l := by
  rcases h with h | ⟨A, hA, h1, h2, hc⟩
  · exact .inl h
  · refine .inr ⟨A, hA, h1, h2, fun i hi => ?_⟩
    obtain ⟨c1, c2, c3⟩ := hc i hi
    refine ⟨?_, ?_, c3⟩
    · rw [ho.cell _ (World.block_lt_of_cell? _ _ c1) (by
        intro e
        rw [e, hp] at c1
        exact hv _ (Option.some.inj c1))]
      exact c1
    · rw [ho.cell _ (World.block_lt_of_cell? _ _ c2) (by
        intro e
        rw [e, hp] at c2
        exact hv _ (Option.some.inj c2))]
      exact c2

theorem OnlyN.trans {p : Addr} {a b c : World} (h : OnlyN p a b) (k : OnlyN p b c) : OnlyN p a c :=
  ⟨h.toOnly.trans k.toOnly, fun ao n c A h1 h2 => Nat.le_trans h.size (k.fresh ao n c A h1 h2)⟩

theorem OnlyN.turn {p : Addr} {a b : World} (h : OnlyN p a b) : Turn [p.block] a b :=
  ⟨h.os, h.tape, h.output, h.size, fun k hk hn => h.block k hk (by simpa using hn)⟩

/-- What records of a kind have. -/
structure HasV where
  id : Bool
  yes : Bool
  parts : Bool
  puts : Bool

def HasV.cells (o : HasV) : Array Value := #[.bool o.id, .bool o.yes, .bool o.parts, .bool o.puts]

def hasV (k : Int) : HasV := ⟨decide (k = 2), decide (k = 5), decide (k = 6 ∨ k = 8 ∨ k = 9), decide (k = 4 ∨ k = 7)⟩

theorem hassize : (Try.prog.info? 69).map (·.size) = some 4 := by kernel_rfl

set_option maxHeartbeats 2000000 in
set_option maxRecDepth 100000 in
theorem hasOf_calls (k : Int) (w : World) : Calls Try.prog 51 #[.int .i64 k] w fun e w' => e = .returned (.agg (hasV k).cells) ∧ Turn [] w w' := by
  have hk : k = 2 ∨ k = 4 ∨ k = 5 ∨ k = 6 ∨ k = 7 ∨ k = 8 ∨ k = 9 ∨ (k ≠ 2 ∧ k ≠ 4 ∧ k ≠ 5 ∧ k ≠ 6 ∧ k ≠ 7 ∧ k ≠ 8 ∧ k ≠ 9) := by omega
  rcases hk with rfl | rfl | rfl | rfl | rfl | rfl | rfl | hk
  rotate_left 7
  · have HO : Hid (hasV k = ⟨false, false, false, false⟩) := Lib.hid (by unfold hasV; rw [decide_eq_false (by omega), decide_eq_false (by omega), decide_eq_false (by omega), decide_eq_false (by omega)])
    rw [HO.out]
    have f2 : (k == 2) = false := by simp; omega
    have f4 : (k == 4) = false := by simp; omega
    have f5 : (k == 5) = false := by simp; omega
    have f6 : (k == 6) = false := by simp; omega
    have f7 : (k == 7) = false := by simp; omega
    have f8 : (k == 8) = false := by simp; omega
    have f9 : (k == 9) = false := by simp; omega
    clear hk HO
    go_enter Try.func51, Try.ntmps51
    go_wp2
    refine bodyPost_ret_by (results_cell_row rfl _ _ w.heap.size 69 _ (0, 0) _ rfl (heap_alloc_new w _) Try.underlying69 rfl hassize) rfl ?_
    exact ⟨rfl, Turn.alloc [] w _⟩
  all_goals
    go_enter Try.func51, Try.ntmps51
    go_wp2
    refine bodyPost_ret_by (results_cell_row rfl _ _ w.heap.size 69 _ (0, 0) _ rfl (heap_alloc_new w _) Try.underlying69 rfl hassize) rfl ?_
    exact ⟨rfl, Turn.alloc [] w _⟩

set_option maxHeartbeats 1000000 in
set_option maxRecDepth 100000 in
theorem layParts_calls (ob oo : Nat) (l : List UInt8) {w : World} {ap : Option Addr} {cp : Nat} {P : List Int} (ho : OutIs w ⟨ob, oo, none⟩ l) (hp : Il w ap cp P) (hb : l.length ≤ 1000000) (hn : P.length ≤ 100000) :
    Calls Try.prog 53 #[.pointer (some ⟨ob, oo, none⟩), .slice ap P.length cp] w fun e w' => e = .returned (.tuple #[]) ∧ OutIs w' ⟨ob, oo, none⟩ (l ++ (smallB P.length ++ partsBy P)) ∧ OnlyN ⟨ob, oo, none⟩ w w' := by
  have C1 := Lib.hid (small_out ob oo l P.length w ho (by omega))
  have HOUT := Lib.hid ho
  have HP := Lib.hid hp
  obtain ⟨n, hnn⟩ : ∃ n, n = P.length := ⟨_, rfl⟩
  have HN := Lib.hid hnn
  rw [← hnn] at C1 hn ⊢
  have HW : ∀ wx, OnlyN ⟨ob, oo, none⟩ w wx → Il wx ap cp P := fun wx t => by
    obtain ⟨a, c, h1, -⟩ := HOUT.out
    exact HP.out.only t.toOnly h1 (by intro n h; cases h)
  have HW := Lib.hid HW
  clear ho hp hnn
  go_enter Try.func53, Try.ntmps53
  go_wp2_with fail
  refine C1.out.mono ?_
  rintro e w1 ⟨rfl, o1, n1⟩
  have O1 := Lib.hid o1
  have N1 := Lib.hid n1
  clear o1 n1 C1
  go_wp2_with fail
  go_loopw [12] (fun vi wx => ∃ k : Nat, k ≤ n ∧ vi = .int .i64 (k : Int) ∧ OutIs wx ⟨ob, oo, none⟩ (l ++ (smallB n ++ partsBy (P.take k))) ∧ OnlyN ⟨ob, oo, none⟩ w wx) (fun vi _ => n - (intOf vi).toNat)
  case atStart => exact ⟨0, by omega, rfl, by simpa [partsBy] using O1.out, N1.out⟩
  case round =>
    obtain ⟨k, hk, rfl, hout, hon⟩ := hrel
    have HO := Lib.hid hout
    have HT := Lib.hid hon
    clear hout hon
    by_cases hkn : k < n
    · have hkl : k < P.length := by rw [← HN.out]; exact hkn
      obtain ⟨b, off, rfl, -, hat⟩ := (HW.out _ HT.out).at (by intro e; rw [e] at hkl; simp at hkl)
      have h0 := hat k hkl
      have hlen : (l ++ (smallB n ++ partsBy (P.take k))).length ≤ 140737488000000 := by
        rw [List.length_append, List.length_append, smallB_len, partsBy_len, List.length_take]
        omega
      have C := Lib.hid (small_out ob oo _ (P.getD k 0) wr HO.out hlen)
      have HX : Hid (l ++ (smallB n ++ partsBy (P.take k)) ++ smallB (P.getD k 0) = l ++ (smallB n ++ partsBy (P.take (k + 1)))) := Lib.hid (by rw [partsBy_next hkl]; simp only [List.append_assoc])
      rw [HX.out] at C
      have hb2 : 0 ≤ (k : Int) ∧ (k : Int) < (n : Int) := by omega
      clear hat hlen HX
      obtain ⟨y, hy⟩ : ∃ y, y = P.getD k 0 := ⟨_, rfl⟩
      rw [← hy] at h0 C
      clear hy
      go_wp2_with fail
      refine C.out.mono ?_
      rintro e w2 ⟨rfl, o2, n2⟩
      have O2 := Lib.hid o2
      have N2 := Lib.hid (HT.out.trans n2)
      clear o2 n2 C
      go_wp2
      go_roundw
      case rel => exact ⟨k + 1, by omega, by go_num, O2.out, N2.out⟩
      case measure => simp [intOf]; omega
    · have hkk : k = n := by omega
      have HF : Hid (P.take k = P) := Lib.hid (List.take_of_length_le (by rw [hkk, HN.out]; exact Nat.le_refl _))
      rw [HF.out] at HO
      clear HF hkk
      go_wp2
      go_end0
      exact ⟨rfl, HO.out, HT.out⟩

set_option maxHeartbeats 2000000 in
set_option maxRecDepth 100000 in
theorem layPuts_calls (ob oo : Nat) (l : List UInt8) {w : World} {aq : Option Addr} {cq : Nat} {Q : List (ByteArray × ByteArray)} (ho : OutIs w ⟨ob, oo, none⟩ l) (hq : Ps w aq cq Q) (hb : l.length ≤ 1000000) (hn : Q.length ≤ 1000)
    (hsz : ∀ i, i < Q.length → (Q.getD i putNone).1.size ≤ 1000000 ∧ (Q.getD i putNone).2.size ≤ 1000000) :
    Calls Try.prog 54 #[.pointer (some ⟨ob, oo, none⟩), .slice aq Q.length cq] w fun e w' => e = .returned (.tuple #[]) ∧ OutIs w' ⟨ob, oo, none⟩ (l ++ (smallB Q.length ++ putsBy Q)) ∧ OnlyN ⟨ob, oo, none⟩ w w' := by
  have C1 := Lib.hid (small_out ob oo l Q.length w ho (by omega))
  have HOUT := Lib.hid ho
  have HQ := Lib.hid hq
  have HSZ := Lib.hid hsz
  obtain ⟨n, hnn⟩ : ∃ n, n = Q.length := ⟨_, rfl⟩
  have HN := Lib.hid hnn
  rw [← hnn] at C1 hn ⊢
  have HW : ∀ wx, OnlyN ⟨ob, oo, none⟩ w wx → Ps wx aq cq Q := fun wx t => by
    obtain ⟨a, c, h1, -⟩ := HOUT.out
    exact HQ.out.only t.toOnly h1 (by intro n h; cases h)
  have HW := Lib.hid HW
  clear ho hq hnn hsz
  go_enter Try.func54, Try.ntmps54
  go_wp2_with fail
  refine C1.out.mono ?_
  rintro e w1 ⟨rfl, o1, n1⟩
  have O1 := Lib.hid o1
  have N1 := Lib.hid n1
  clear o1 n1 C1
  go_wp2_with fail
  go_loopw [12] (fun vi wx => ∃ k : Nat, k ≤ n ∧ vi = .int .i64 (k : Int) ∧ OutIs wx ⟨ob, oo, none⟩ (l ++ (smallB n ++ putsBy (Q.take k))) ∧ OnlyN ⟨ob, oo, none⟩ w wx) (fun vi _ => n - (intOf vi).toNat)
  case atStart => exact ⟨0, by omega, rfl, by simpa [putsBy] using O1.out, N1.out⟩
  case round =>
    obtain ⟨k, hk, rfl, hout, hon⟩ := hrel
    have HO := Lib.hid hout
    have HT := Lib.hid hon
    clear hout hon
    by_cases hkn : k < n
    · have hkl : k < Q.length := by rw [← HN.out]; exact hkn
      obtain ⟨b, off, rfl, -, hat⟩ := (HW.out _ HT.out).at (by intro e; rw [e] at hkl; simp at hkl)
      obtain ⟨h0, h1, -, -⟩ := hat k hkl
      obtain ⟨z0, z1⟩ := HSZ.out k hkl
      have hlen : (l ++ (smallB n ++ putsBy (Q.take k))).length ≤ 140737400000000 := by
        have := putsBy_len (Q.take k)
        rw [List.length_take] at this
        rw [List.length_append, List.length_append, smallB_len]
        omega
      obtain ⟨x, hx⟩ : ∃ x, x = (Q.getD k putNone).1 := ⟨_, rfl⟩
      obtain ⟨y, hy⟩ : ∃ y, y = (Q.getD k putNone).2 := ⟨_, rfl⟩
      rw [← hx] at h0 z0
      rw [← hy] at h1 z1
      have C := Lib.hid (text_out ob oo _ x (wr.alloc (.cells #[.string x, .string y] 29)) (HO.out.alloc (new_below _ _)) (by unfold maxLen; omega) (by omega))
      have C2 := Lib.hid (fun wx o => text_out ob oo (l ++ (smallB n ++ putsBy (Q.take k)) ++ textB x) y wx o (by unfold maxLen; omega) (by have := textB_len x; rw [List.length_append]; omega))
      have HX : Hid (l ++ (smallB n ++ putsBy (Q.take k)) ++ textB x ++ textB y = l ++ (smallB n ++ putsBy (Q.take (k + 1)))) := Lib.hid (by rw [putsBy_next hkl, hx, hy]; simp only [List.append_assoc])
      have hb2 : 0 ≤ (k : Int) ∧ (k : Int) < (n : Int) := by omega
      clear hat hlen z0 z1 hx hy
      go_wp2_with fail
      refine C.out.mono ?_
      rintro e w2 ⟨rfl, o2, n2⟩
      have O2 := Lib.hid o2
      have N2 := Lib.hid (HT.out.trans n2.after_alloc)
      have R2 := n2.turn.heap (heap_alloc_new wr (.cells #[.string x, .string y] 29)) (by
        obtain ⟨a, c, hc, -⟩ := HO.out
        have := World.block_lt_of_cell? _ _ hc
        simp at this ⊢
        omega)
      have k1 : w2.cell? ⟨wr.heap.size, 1, none⟩ = some (.string y) := by rw [cell_of_row _ _ _ _ _ _ R2]; rfl
      clear o2 n2 C R2
      go_wp2_with fail
      refine (C2.out _ O2.out).mono ?_
      rintro e w3 ⟨rfl, o3, n3⟩
      have O3 := Lib.hid o3
      have N3 := Lib.hid (N2.out.trans n3)
      rw [HX.out] at O3
      clear o3 n3 C2 HX k1 O2
      go_wp2
      go_roundw
      case rel => exact ⟨k + 1, by omega, by go_num, O3.out, N3.out⟩
      case measure => simp [intOf]; omega
    · have hkk : k = n := by omega
      have HF : Hid (Q.take k = Q) := Lib.hid (List.take_of_length_le (by rw [hkk, HN.out]; exact Nat.le_refl _))
      rw [HF.out] at HO
      clear HF hkk
      go_wp2
      go_end0
      exact ⟨rfl, HO.out, HT.out⟩

end Go.Proofs.Ytanjbbmgpodbgaa
