/-
  The walk of the law RecAny.
-/
import Derived.Test.YtanjbbmgpodbgaaTells
import Derived.Test.YtanjbbmgpodbgaaRegInv
import Derived.Test.YtanjbbmgpodbgaaBits
import Derived.Test.YtanjbbmgpodbgaaShort
namespace Go.Proofs.Ytanjbbmgpodbgaa
open Go.RowKit

theorem Sl.dropped {w : World} {g c : Nat} {l : List UInt8} (h : Sl w (some ⟨g, 0, none⟩) c l) (k : Nat) : Sl w (some ⟨g, k, none⟩) (c - k) (l.drop k) := by
  rcases h with ⟨h, -, -⟩ | ⟨A, hA, h1, h2, hc⟩
  · cases h
  · injection hA with hA
    subst hA
    refine .inr ⟨_, rfl, by rw [List.length_drop]; omega, by omega, fun i hi => ?_⟩
    rw [List.length_drop] at hi
    have := hc (k + i) (by omega)
    rw [Addr.add_lit, Nat.zero_add] at this
    rw [Addr.add_lit, this]
    simp [List.getD]

theorem step_append_bn {ops : Array Oper} {o : Oper} {a : Act} {w : World} {K : Act → World → Prop} {Q : Exit → Act → World → Prop} {E : Prop} (hgd : o.guard = none) (s x : Operand)
    (ho : o.op = .call { callee := .builtin .append, args := #[s, x], argTypes := #[24, 24] })
    (v : Value) (l : List UInt8) (hs : a.eval s = v) (hown : w.ownsRow 0 5 1 v l.length (u8s l))
    (ao : Option Addr) (n2 c : Nat) (l2 : List UInt8) (hn2 : n2 = l2.length) (hx : a.eval x = .slice ao n2 c) (hsl : Sl w ao c l2) (hb : l.length + l2.length ≤ 140737488355328)
    (h : ∀ v' w', w'.ownsRow 0 5 1 v' (l ++ l2).length (u8s (l ++ l2)) → w.grownBy w' v.ownBlock → (v'.ownBlock = v.ownBlock ∨ v'.ownBlock = some w.heap.size) → K (a.put o.dst v') w') :
    if Region.wanted o (yielded ops a.tmps) = true then Oper.wp Try.prog o a w K Q else E := by
  subst hn2
  exact step_append_b hgd s x ho v l hs hown ao c l2 hx hsl hb h

theorem new_none8 (w : World) (v : Value) (h : v.ownBlock = (Value.slice none 0 0).ownBlock ∨ v.ownBlock = some w.drew.heap.size) : ∀ k, v.ownBlock = some k → w.heap.size ≤ k := by
  intro k hk
  rcases h with e | e
  · rw [e] at hk; cases hk
  · rw [e] at hk
    injection hk with hk
    rw [← hk]
    exact Nat.le_refl _

theorem new_of8 {B : Nat} {w : World} {v v' : Value} (h : ∀ k, v.ownBlock = some k → B ≤ k) (hs : B ≤ w.heap.size) (e : v'.ownBlock = v.ownBlock ∨ v'.ownBlock = some w.heap.size) : ∀ k, v'.ownBlock = some k → B ≤ k := by
  intro k hk
  rcases e with e | e
  · exact h k (e.symm.trans hk)
  · rw [e] at hk
    injection hk with hk
    omega

theorem recBytes_short {r : RecV} (h : recB r = true) : (recBytes r).length ≤ 2000000 := by
  obtain ⟨-, -, -, -, -, -, -, -, h1, -, h2, -⟩ := recB_says h
  have p1 := partsBy_len r.parts
  have p2 := putsBy_len r.puts
  unfold recBytes recTail
  rw [List.length_append, List.length_append, smallB_len, longB_len]
  split
  · rw [longB_len]; omega
  split
  · simp
  split
  · rw [List.length_append, smallB_len]; omega
  split
  · rw [List.length_append, smallB_len]; omega
  · simp

theorem xor_byte (a b : UInt8) : ∃ z : UInt8, bits .xor .u8 (a.toNat : Int) (b.toNat : Int) = (z.toNat : Int) := by
  have h := u8_xor_nat a.toNat b.toNat a.toNat_lt b.toNat_lt
  have hlt : a.toNat ^^^ b.toNat < 256 := Nat.xor_lt_two_pow (n := 8) a.toNat_lt b.toNat_lt
  exact ⟨UInt8.ofNat (a.toNat ^^^ b.toNat), by rw [h, UInt8.toNat_ofNat', Nat.mod_eq_of_lt hlt]⟩

theorem u8s_set (l : List UInt8) (k : Nat) (z : UInt8) : (u8s l).set k (.int .u8 (z.toNat : Int)) = u8s (l.set k z) := by
  unfold u8s
  rw [List.map_set]

set_option maxHeartbeats 8000000 in
set_option maxRecDepth 100000 in
theorem recAny_walk (F : RecFace) (ab : Option Addr) (cb : Nat) (lb : List UInt8) {w : World} (wb : Sl w ab cb lb) (a0 : RecV) (ap : Option Addr) (cp : Nat) (aq : Option Addr) (cq : Nat) (wp : Il w ap cp a0.parts) (wq : Ps w aq cq a0.puts) (wk : okI a0.kind) (wt : okI a0.tid) (wi : okI a0.id)
    (a2 : Int) (w2 : (Lit.int .i64 a2).wf = true) (a3 : Int) (w3 : (Lit.int .u8 a3).wf = true) (a4 : Int) (_w4 : (Lit.int .i64 a4).wf = true) :
    Calls Try.prog 8 #[.slice ab lb.length cb, .agg (a0.cells ap cp aq cq), .int .i64 a2, .int .u8 a3, .int .i64 a4] w fun e w' => e = .returned (.bool true) ∧ Below w.heap.size w w' := by
  have hb2 := bounds_i64 w2
  have hb3 := bounds_u8 w3
  have m4 := i64_and3 a4
  obtain ⟨sg, hsg⟩ : ∃ sg : UInt8, (sg.toNat : Int) = a3 := ⟨UInt8.ofNat a3.toNat, by rw [UInt8.toNat_ofNat']; omega⟩
  subst hsg
  have HWB := Lib.hid wb
  have hlb := wb.le
  unfold maxLen at hlb
  obtain ⟨nb, hnb⟩ : ∃ n, n = lb.length := ⟨_, rfl⟩
  have HNB := Lib.hid hnb
  rw [← hnb] at hlb ⊢
  have HWP := Lib.hid wp
  have HWQ := Lib.hid wq
  have HF0 : Hid (a0.fit) := Lib.hid ⟨wk, wt, wi⟩
  obtain ⟨k, t, d, y, P, Q⟩ := a0
  clear wk wt wi wp wq wb w2 w3 _w4 hnb hb3
  have HC : Hid (∀ wx, Turn [] w wx → Calls Try.prog 30 #[.agg #[.int .i64 k, .int .i64 t, .int .i64 d, .bool y, .slice ap P.length cp, .slice aq Q.length cq]] wx fun e w' => ∃ ap' cp' aq' cq', e = .returned (.agg ((recCut ⟨k, t, d, y, P, Q⟩).cells ap' cp' aq' cq')) ∧ RowsOf wx w' (recCut ⟨k, t, d, y, P, Q⟩) ap' cp' aq' cq' ∧ Few (recCut ⟨k, t, d, y, P, Q⟩) ∧ Turn [] wx w') :=
    Lib.hid (fun wx tx => lawCut_calls ⟨k, t, d, y, P, Q⟩ (HWP.out.turn tx) (HWQ.out.turn tx) HF0.out)
  unfold RecV.cells
  dsimp only
  obtain ⟨np, hnp⟩ : ∃ n, n = P.length := ⟨_, rfl⟩
  obtain ⟨nq, hnq⟩ : ∃ n, n = Q.length := ⟨_, rfl⟩
  rw [← hnp, ← hnq] at HC
  rw [← hnp, ← hnq]
  clear hnp hnq HWP HWQ HF0
  obtain ⟨q, hq⟩ : ∃ q, q = w.heap.size := ⟨_, rfl⟩
  obtain ⟨x0, hx0⟩ : ∃ x0, x0 = w.alloc (.cells #[.int .i64 k, .int .i64 t, .int .i64 d, .bool y, .slice ap np cp, .slice aq nq cq] 38) := ⟨_, rfl⟩
  have t0 : Turn [] w x0 := by rw [hx0]; exact Turn.alloc [] w _
  have b0 : x0.heap[q]? = some (.cells #[.int .i64 k, .int .i64 t, .int .i64 d, .bool y, .slice ap np cp, .slice aq nq cq] 38) := by rw [hx0, hq]; exact heap_alloc_new w _
  have T0 := Lib.hid t0
  have B0 := Lib.hid b0
  clear t0 b0
  go_enter Try.func8, Try.ntmps8
  go_wp2_with fail
  rw [← hx0, ← hq]
  have HQ := Lib.hid hq
  clear hx0 hq
  refine (begun8_calls F _).mono ?_
  rintro e x1 ⟨rfl, t1'⟩
  have T1 := Lib.hid (T0.out.trans t1' (by simp))
  have b1 := t1'.heap B0.out (by simp)
  have B1 := Lib.hid b1
  obtain ⟨k0, k1', k2, k3, k4, k5⟩ := six_of b1
  clear t1' b1
  have CS := Lib.hid (short_named ab cb 60 lb x1 (HWB.out.turn T1.out) (by omega))
  rw [← HNB.out] at CS
  go_wp2_with fail
  refine CS.out.mono ?_
  rintro e x2 ⟨sb, scb, ls, rfl, -, hsb, tb⟩
  have TB := Turn.of_below tb []
  have T2 := Lib.hid (T1.out.trans TB (by simp))
  have b2 := TB.heap B1.out (by simp)
  obtain ⟨m0, m1', m2', m3, m4', m5⟩ := six_of b2
  have HSB := Lib.hid hsb
  have hls := hsb.le
  unfold maxLen at hls
  obtain ⟨ns, hns⟩ : ∃ n, n = ls.length := ⟨_, rfl⟩
  have HNS := Lib.hid hns
  rw [← hns] at hls ⊢
  clear tb TB b2 hsb hns k0 k1' k2 k3 k4 k5 CS B1 HWB HNB hlb
  go_wp2_with fail
  refine (HC.out x2 T2.out).mono ?_
  rintro e x3 ⟨ap2, cp2, aq2, cq2, rfl, ho, hf, t3⟩
  have T3 := Lib.hid (T2.out.trans t3 (by simp))
  have HSB3 := Lib.hid (HSB.out.turn t3)
  generalize recCut ⟨k, t, d, y, P, Q⟩ = r at *
  have CE := Lib.hid (enc_row F r (ho.il hf) (ho.ps hf) hf.fit)
  clear t3 ho hf HC T1 T2 T0 B0 HSB m0 m1' m2' m3 m4' m5
  obtain ⟨rc, hrc⟩ : ∃ rc, rc = r.cells ap2 cp2 aq2 cq2 := ⟨_, rfl⟩
  rw [← hrc] at CE ⊢
  clear hrc
  go_wp2_with fail
  refine CE.out.mono ?_
  have CT : Hid (∀ wx ao c l m, m = l.length → Sl wx ao c l → Calls Try.prog 41 #[.slice ao m c] wx fun e w' => e = .returned (.bool true) ∧ Turn [] wx w') := Lib.hid (fun wx ao c l m hm hs => by subst hm; exact tells_calls F l wx ao c hs)
  clear CE
  have hbelow : ∀ w', Turn [] w w' → Below w.heap.size w w' := fun w' t => t.belowAll
  have HBEL := Lib.hid hbelow
  clear hbelow
  rintro e x4 ⟨t4, ⟨hb, g, c, rfl, hg, ho⟩ | ⟨hb, rfl⟩⟩
  · have T4 := Lib.hid (T3.out.trans t4 (by simp))
    have HSB4 := Lib.hid (HSB3.out.turn t4)
    obtain ⟨L, hL⟩ : ∃ L, L = recBytes r := ⟨_, rfl⟩
    have hn10 := recBytes_long r
    have hn20 := recBytes_short hb
    rw [← hL] at ho hn10 hn20 ⊢
    have HO4 := Lib.hid ho
    have HG := Lib.hid hg
    have hsl0 : Sl x4 (some ⟨g, 0, none⟩) c L := by
      obtain ⟨a, cc, e1, e2, _⟩ := Sl.of_owns ho
      injection e1 with e3 e4 e5
      subst e3 e5
      exact e2
    have hnc := hsl0.le
    unfold maxLen at hnc
    obtain ⟨n, hn⟩ : ∃ n, n = L.length := ⟨_, rfl⟩
    have HN := Lib.hid hn
    rw [← hn] at hn10 hn20 hnc ⊢
    clear t4 hg ho hsl0 hn hL hb HSB3
    have n1 : ((n : Int) == 0) = false := by simp; omega
    go_wp2_with fail
    refine (CT.out x4 sb scb ls ns HNS.out HSB4.out).mono ?_
    rintro e x5 ⟨rfl, t5⟩
    have T5 := Lib.hid (T4.out.trans t5 (by simp))
    have HSB5 := Lib.hid (HSB4.out.turn t5)
    have HO5 := Lib.hid (ownsRow_turn HO4.out t5 (by simp))
    have HSL : Hid (Sl x5 (some ⟨g, 0, none⟩) c L) := Lib.hid (by
      obtain ⟨a, cc, e1, e2, _⟩ := Sl.of_owns HO5.out
      injection e1 with e3 e4 e5
      subst e3 e5
      exact e2)
    have HGW : Hid (w.heap.size ≤ g) := Lib.hid (Nat.le_trans T3.out.size HG.out)
    clear t5 T4 HSB4 HO4
    by_cases hat : a2 < 0
    · go_wp2_with fail
      refine (CT.out x5 sb scb ls ns HNS.out HSB5.out).mono ?_
      rintro e x6 ⟨rfl, t6⟩
      have T6 := Lib.hid (T5.out.trans t6 (by simp))
      clear t6
      go_wp2
      go_ret
      exact ⟨rfl, HBEL.out _ T6.out⟩
    · obtain ⟨k, hk⟩ : ∃ k : Nat, k = (a2 % (n : Int)).toNat := ⟨_, rfl⟩
      have hm0 := Int.emod_nonneg a2 (show (n : Int) ≠ 0 by omega)
      have hm1 := Int.emod_lt_of_pos a2 (show (0 : Int) < (n : Int) by omega)
      have hkn : k < n := by omega
      have ht : a2.tmod (n : Int) = (k : Int) := by rw [Int.tmod_eq_emod_of_nonneg (by omega)]; omega
      have n0 : (n : Int) ≠ 0 := by omega
      have hat2 : 0 ≤ a2 := by omega
      have r1 : 0 ≤ (k : Int) ∧ (k : Int) < (n : Int) := by omega
      have r2 : (n : Int) ≤ (c : Int) := by omega
      clear hk hm0 hm1 hat
      obtain ⟨j, hj⟩ : ∃ j, j = a4 % 4 := ⟨_, rfl⟩
      have hj4 : j = 0 ∨ j = 1 ∨ j = 2 ∨ j = 3 := by omega
      rw [← hj] at m4
      clear hj
      rcases hj4 with rfl | rfl | rfl | rfl
      · obtain ⟨z, hz⟩ := xor_byte (L.getD k 0) sg
        have hkL : k < L.length := by rw [← HN.out]; exact hkn
        have q0 : x5.cell? ⟨g, k, none⟩ = some (.int .u8 ((L.getD k 0).toNat : Int)) := (HO5.out.cellAt k (by omega)).trans (u8s_at hkL)
        have qf : x5.frozen? ⟨g, k, none⟩ = false := HO5.out.frozenAt k
        obtain ⟨lk, hlk⟩ : ∃ lk, lk = L.getD k 0 := ⟨_, rfl⟩
        rw [← hlk] at q0 hz
        clear hlk
        obtain ⟨pl, hpl⟩ : ∃ p : Nat, p = lk.toNat := ⟨_, rfl⟩
        obtain ⟨sx, hsx⟩ : ∃ p : Nat, p = sg.toNat := ⟨_, rfl⟩
        obtain ⟨zz, hzz⟩ : ∃ p : Nat, p = z.toNat := ⟨_, rfl⟩
        rw [← hpl] at q0 hz
        rw [← hsx] at hz
        rw [← hzz] at hz
        have HZZ := Lib.hid hzz
        have O6 : Hid ((x5.setCell ⟨g, k, none⟩ (.int .u8 (z.toNat : Int))).ownsRow x3.heap.size 5 1 (.slice (some ⟨g, 0, none⟩) L.length c) L.length (u8s (L.set k z))) := Lib.hid (by rw [← u8s_set]; exact (HO5.out.stored k _).1)
        have S6 : Hid (Sl (x5.setCell ⟨g, k, none⟩ (.int .u8 (z.toNat : Int))) (some ⟨g, 0, none⟩) c (L.set k z)) := Lib.hid (by
          have h6 := O6.out
          rw [show L.length = (L.set k z).length by simp] at h6
          obtain ⟨a, cc, e1, e2, _⟩ := Sl.of_owns h6
          injection e1 with e3 e4 e5
          subst e3 e5
          exact e2)
        have HLS : Hid (n = (L.set k z).length) := Lib.hid (by rw [List.length_set]; exact HN.out)
        have T6 : Hid (Turn [] w (x5.setCell ⟨g, k, none⟩ (.int .u8 (z.toNat : Int)))) := Lib.hid (T5.out.trans (Turn.setCell (l := [g]) x5 (by simp) _) (fun i hi => .inr (by have := HGW.out; simp at hi; omega)))
        rw [← hzz] at S6 T6
        rw [← hsx]
        clear hpl hsx hzz hkL hkn n0 O6
        go_wp2_with fail
        refine (CT.out _ _ _ _ _ HLS.out S6.out).mono ?_
        rintro e x7 ⟨rfl, t7⟩
        have T7 := Lib.hid (T6.out.trans t7 (by simp))
        clear t7
        go_wp2
        go_ret
        exact ⟨rfl, HBEL.out _ T7.out⟩
      · have HS1 : Hid (Sl x5 (some ⟨g, 0, none⟩) c (L.take k)) := Lib.hid (HSL.out.take k)
        have HS2 : Hid (Sl x5 (some ⟨g, k, none⟩) (c - k) (L.drop k)) := Lib.hid (HSL.out.dropped k)
        have hkL : k < L.length := by rw [← HN.out]; exact hkn
        have HL1 : Hid (k = (L.take k).length) := Lib.hid (by rw [List.length_take]; omega)
        have HL2 : Hid (n - k = (L.drop k).length) := Lib.hid (by rw [List.length_drop, HN.out])
        have HB1 : Hid ((([] : List UInt8).length + (L.take k).length) ≤ 140737488355328) := Lib.hid (by rw [List.length_take, List.length_nil, ← HN.out]; omega)
        have HB3 : Hid (([] ++ L.take k).length + [sg].length ≤ 140737488355328) := Lib.hid (by simp; have := HN.out; omega)
        have HB2 : Hid ((([] ++ L.take k) ++ [sg]).length + (L.drop k).length ≤ 140737488355328) := Lib.hid (by simp; have := HN.out; omega)
        have HA2 : Hid ((if c = k then (some ⟨g, 0, none⟩ : Option Addr) else some ⟨g, k, none⟩) = some ⟨g, k, none⟩) := Lib.hid (if_neg (by omega))
        have hnck : (n : Int) - (k : Int) = ((n - k : Nat) : Int) := by omega
        go_wp2_with fail
        refine wp_region_any (by kernel_rfl) ?_
        refine any_take (i := 0) (d := some 57) (v := ?_) rfl (by rfl) (by kernel_rfl) (by kernel_rfl) (by kernel_rfl) (fun _ _ _ h => h) (by rfl) ?_ ?_
        rotate_left
        · intro wz
          go_simp
          try with_reducible rfl
        simp only [Act.put, List.setIfInBounds_toArray, List.set_cons_zero, List.set_cons_succ]
        refine any_take (i := 1) (d := some 58) (v := ?_) rfl (by rfl) (by kernel_rfl) (by kernel_rfl) (by kernel_rfl) (fun _ _ _ h => h) (by rfl) ?_ ?_
        rotate_left
        · intro wz
          go_simp
          try with_reducible rfl
        simp only [Act.put, List.setIfInBounds_toArray, List.set_cons_zero, List.set_cons_succ]
        refine any_take (i := 2) (d := some 59) (v := .slice (some ⟨g, 0, none⟩) k c) rfl (by rfl) (by kernel_rfl) (by kernel_rfl) (by kernel_rfl) (fun _ _ _ h => h) (by rfl) ?_ ?_
        · intro wz
          go_simp
          try (intro hlt; exfalso; omega)
        simp only [Act.put, List.setIfInBounds_toArray, List.set_cons_zero, List.set_cons_succ]
        refine any_take (i := 4) (d := some 61) (v := ?_) rfl (by rfl) (by kernel_rfl) (by kernel_rfl) (by kernel_rfl) (fun _ _ _ h => h) (by rfl) ?_ ?_
        rotate_left
        · intro wz
          go_simp
          try with_reducible rfl
        simp only [Act.put, List.setIfInBounds_toArray, List.set_cons_zero, List.set_cons_succ]
        refine any_take (i := 7) (d := some 64) (v := ?_) rfl (by rfl) (by kernel_rfl) (by kernel_rfl) (by kernel_rfl) (fun _ _ _ h => h) (by rfl) ?_ ?_
        rotate_left
        · intro wz
          go_simp
          try with_reducible rfl
        simp only [Act.put, List.setIfInBounds_toArray, List.set_cons_zero, List.set_cons_succ]
        refine any_take (i := 8) (d := some 65) (v := ?_) rfl (by rfl) (by kernel_rfl) (by kernel_rfl) (by kernel_rfl) (fun _ _ _ h => h) (by rfl) ?_ ?_
        rotate_left
        · intro wz
          go_simp
          try with_reducible rfl
        simp only [Act.put, List.setIfInBounds_toArray, List.set_cons_zero, List.set_cons_succ]
        have hA2 := HA2.out
        refine any_take (i := 9) (d := some 66) (v := .slice (some ⟨g, k, none⟩) (n - k) (c - k)) rfl (by rfl) (by kernel_rfl) (by kernel_rfl) (by kernel_rfl) (fun _ _ _ h => h) (by rfl) ?_ ?_
        · intro wz
          go_simp
          try (intro hlt; exfalso; omega)
        simp only [Act.put, List.setIfInBounds_toArray, List.set_cons_zero, List.set_cons_succ]
        clear hA2
        refine wpAny_ready (rs := [3, 5]) (by kernel_rfl) (by simp) ?_
        refine AllReady.cons rfl (fun KK hKK => ?_) ?_
        · refine step_append_bn (by rfl) (.const (.slice none 0 0)) (.tmp 59) (by rfl) (.slice none 0 0) [] (by rfl) (World.ownsRow_nil _ _ _ _) (some ⟨g, 0, none⟩) k c (L.take k) HL1.out (by rfl) (HS1.out.turn (Turn.drew [] x5)) HB1.out ?_
          intro v1 w7 ho1 hg1 hf1
          have T1 : Turn [] x5 w7 := (Turn.drew [] x5).trans (Turn.grown (l := []) hg1 (by intro k hk; cases hk)) (by simp)
          have F1 := new_none8 x5 v1 hf1
          refine hKK _ _ ?_
          show wpAny _ _ _ _ _ _ (Act.put _ (some 60) _) _
          simp only [Act.put, List.setIfInBounds_toArray, List.set_cons_zero, List.set_cons_succ]
          refine any_one (i := 5) (by kernel_rfl) (by rfl) (fun KK hKK => ?_)
          go_simp
          refine hKK _ _ ?_
          have hoA := ownsRow_turn ho1 (Turn.alloc [] w7 (.cells #[.int .u8 (sg.toNat : Int)] 5)) (fun _ _ => by simp)
          have HX := Sl.made w7 #[.int .u8 (sg.toNat : Int)] 5 [sg] rfl (by simp [maxLen])
          have TA := T1.trans (Turn.alloc [] w7 (.cells #[.int .u8 (sg.toNat : Int)] 5)) (by simp)
          obtain ⟨bx, hbx⟩ : ∃ bx, bx = w7.heap.size := ⟨_, rfl⟩
          obtain ⟨wA, hwA⟩ : ∃ wA, wA = w7.alloc (.cells #[.int .u8 (sg.toNat : Int)] 5) := ⟨_, rfl⟩
          rw [← hbx] at HX ⊢
          rw [← hwA] at hoA HX TA ⊢
          refine any_one (i := 6) (by kernel_rfl) (by rfl) (fun KK hKK => ?_)
          refine step_append_bn (by rfl) (.tmp 60) (.tmp 62) (by rfl) v1 ([] ++ L.take k) (by rfl) hoA (some ⟨bx, 0, none⟩) 1 1 [sg] (by rfl) (by rfl) HX HB3.out ?_
          intro v2 w8 ho2 hg2 hf2
          have T2 : Turn [] x5 w8 := TA.trans (Turn.grown (l := v1.ownBlock.toList) hg2 (by intro j hj; simp [hj])) (fun i hi => .inr (F1 i (by simpa using hi)))
          have F2 := new_of8 F1 TA.size hf2
          refine hKK _ _ ?_
          show wpAny _ _ _ _ _ _ (Act.put _ (some 63) _) _
          simp only [Act.put, List.setIfInBounds_toArray, List.set_cons_zero, List.set_cons_succ]
          refine any_one (i := 10) (by kernel_rfl) (by rfl) (fun KK hKK => ?_)
          refine step_append_bn (by rfl) (.tmp 63) (.tmp 66) (by rfl) v2 (([] ++ L.take k) ++ [sg]) (by rfl) ho2 (some ⟨g, k, none⟩) (n - k) (c - k) (L.drop k) HL2.out (by rfl) (HS2.out.turn T2) HB2.out ?_
          intro v3 w9 ho3 hg3 hf3
          have T3' : Turn [] x5 w9 := T2.trans (Turn.grown (l := v2.ownBlock.toList) hg3 (by intro j hj; simp [hj])) (fun i hi => .inr (F2 i (by simpa using hi)))
          obtain ⟨a9, c9, hv, hs9, -⟩ := Sl.of_owns ho3
          obtain ⟨n9, hn9⟩ : ∃ m, m = ((([] ++ L.take k) ++ [sg]) ++ L.drop k).length := ⟨_, rfl⟩
          rw [← hn9] at hv
          subst hv
          have HN9 := Lib.hid hn9
          clear hn9
          refine hKK _ _ ?_
          show wpAny _ _ _ _ _ _ (Act.put _ (some 67) _) _
          simp only [Act.put, List.setIfInBounds_toArray, List.set_cons_zero, List.set_cons_succ]
          refine any_take (i := 11) (d := some 12) (v := ?_) rfl (by rfl) (by kernel_rfl) (by kernel_rfl) (by kernel_rfl) (fun _ _ _ h => h) (by rfl) ?_ ?_
          rotate_left
          · intro wz
            go_simp
            try with_reducible rfl
          simp only [Act.put, List.setIfInBounds_toArray, List.set_cons_zero, List.set_cons_succ]
          refine any_done (by kernel_rfl) ?_ _
          have HT3 := Lib.hid (T5.out.trans T3' (by simp))
          have HS9 := Lib.hid hs9
          clear ho1 hg1 hf1 T1 F1 ho2 hg2 hf2 T2 F2 hoA HX TA ho3 hg3 hf3 T3' hs9 hnck r1 r2 ht n0 hat2 hkn hkL n1 hn10 hn20 hnc
          go_wp2_with fail
          refine (CT.out _ _ _ _ _ HN9.out HS9.out).mono ?_
          rintro e xA ⟨rfl, tA⟩
          have TAA := Lib.hid (HT3.out.trans tA (by simp))
          clear tA
          go_wp2
          go_ret
          exact ⟨rfl, HBEL.out _ TAA.out⟩
        refine AllReady.cons rfl (fun KK hKK => ?_) ?_
        · go_simp
          refine hKK _ _ ?_
          have TB : Turn [] x5 ((x5.alloc (.cells #[.int .u8 (sg.toNat : Int)] 5)).drew) := (Turn.alloc [] x5 (.cells #[.int .u8 (sg.toNat : Int)] 5)).trans (Turn.drew [] _) (by simp)
          have HX0 := (Sl.made x5 #[.int .u8 (sg.toNat : Int)] 5 [sg] rfl (by simp [maxLen])).turn (Turn.drew [] _)
          obtain ⟨bx, hbx⟩ : ∃ bx, bx = x5.heap.size := ⟨_, rfl⟩
          obtain ⟨wB, hwB⟩ : ∃ wB, wB = (x5.alloc (.cells #[.int .u8 (sg.toNat : Int)] 5)).drew := ⟨_, rfl⟩
          rw [← hbx] at HX0 ⊢
          rw [← hwB] at TB HX0 ⊢
          refine any_one (i := 3) (by kernel_rfl) (by rfl) (fun KK hKK => ?_)
          refine step_append_bn (by rfl) (.const (.slice none 0 0)) (.tmp 59) (by rfl) (.slice none 0 0) [] (by rfl) (World.ownsRow_nil _ _ _ _) (some ⟨g, 0, none⟩) k c (L.take k) HL1.out (by rfl) (HS1.out.turn TB) HB1.out ?_
          intro v1 w7 ho1 hg1 hf1
          have TG : Turn [] wB w7 := Turn.grown (l := []) hg1 (by intro k hk; cases hk)
          have T1 : Turn [] x5 w7 := TB.trans TG (by simp)
          have F1 : ∀ k, v1.ownBlock = some k → x5.heap.size ≤ k := new_of8 (v := .slice none 0 0) (by intro k hk; cases hk) TB.size hf1
          refine hKK _ _ ?_
          show wpAny _ _ _ _ _ _ (Act.put _ (some 60) _) _
          simp only [Act.put, List.setIfInBounds_toArray, List.set_cons_zero, List.set_cons_succ]
          have hoA := ho1
          have HX := HX0.turn TG
          have TA := T1
          refine any_one (i := 6) (by kernel_rfl) (by rfl) (fun KK hKK => ?_)
          refine step_append_bn (by rfl) (.tmp 60) (.tmp 62) (by rfl) v1 ([] ++ L.take k) (by rfl) hoA (some ⟨bx, 0, none⟩) 1 1 [sg] (by rfl) (by rfl) HX HB3.out ?_
          intro v2 w8 ho2 hg2 hf2
          have T2 : Turn [] x5 w8 := TA.trans (Turn.grown (l := v1.ownBlock.toList) hg2 (by intro j hj; simp [hj])) (fun i hi => .inr (F1 i (by simpa using hi)))
          have F2 := new_of8 F1 TA.size hf2
          refine hKK _ _ ?_
          show wpAny _ _ _ _ _ _ (Act.put _ (some 63) _) _
          simp only [Act.put, List.setIfInBounds_toArray, List.set_cons_zero, List.set_cons_succ]
          refine any_one (i := 10) (by kernel_rfl) (by rfl) (fun KK hKK => ?_)
          refine step_append_bn (by rfl) (.tmp 63) (.tmp 66) (by rfl) v2 (([] ++ L.take k) ++ [sg]) (by rfl) ho2 (some ⟨g, k, none⟩) (n - k) (c - k) (L.drop k) HL2.out (by rfl) (HS2.out.turn T2) HB2.out ?_
          intro v3 w9 ho3 hg3 hf3
          have T3' : Turn [] x5 w9 := T2.trans (Turn.grown (l := v2.ownBlock.toList) hg3 (by intro j hj; simp [hj])) (fun i hi => .inr (F2 i (by simpa using hi)))
          obtain ⟨a9, c9, hv, hs9, -⟩ := Sl.of_owns ho3
          obtain ⟨n9, hn9⟩ : ∃ m, m = ((([] ++ L.take k) ++ [sg]) ++ L.drop k).length := ⟨_, rfl⟩
          rw [← hn9] at hv
          subst hv
          have HN9 := Lib.hid hn9
          clear hn9
          refine hKK _ _ ?_
          show wpAny _ _ _ _ _ _ (Act.put _ (some 67) _) _
          simp only [Act.put, List.setIfInBounds_toArray, List.set_cons_zero, List.set_cons_succ]
          refine any_take (i := 11) (d := some 12) (v := ?_) rfl (by rfl) (by kernel_rfl) (by kernel_rfl) (by kernel_rfl) (fun _ _ _ h => h) (by rfl) ?_ ?_
          rotate_left
          · intro wz
            go_simp
            try with_reducible rfl
          simp only [Act.put, List.setIfInBounds_toArray, List.set_cons_zero, List.set_cons_succ]
          refine any_done (by kernel_rfl) ?_ _
          have HT3 := Lib.hid (T5.out.trans T3' (by simp))
          have HS9 := Lib.hid hs9
          clear ho1 hg1 hf1 T1 F1 ho2 hg2 hf2 T2 F2 hoA HX TA ho3 hg3 hf3 T3' hs9 hnck r1 r2 ht n0 hat2 hkn hkL n1 hn10 hn20 hnc
          go_wp2_with fail
          refine (CT.out _ _ _ _ _ HN9.out HS9.out).mono ?_
          rintro e xA ⟨rfl, tA⟩
          have TAA := Lib.hid (HT3.out.trans tA (by simp))
          clear tA
          go_wp2
          go_ret
          exact ⟨rfl, HBEL.out _ TAA.out⟩
        exact AllReady.nil
      · have S6 : Hid (Sl x5 (some ⟨g, 0, none⟩) c (L.take k)) := Lib.hid (HSL.out.take k)
        have HLS : Hid (k = (L.take k).length) := Lib.hid (by rw [List.length_take, ← HN.out]; omega)
        go_wp2_with fail
        refine (CT.out _ _ _ _ _ HLS.out S6.out).mono ?_
        rintro e x7 ⟨rfl, t7⟩
        have T7 := Lib.hid (T5.out.trans t7 (by simp))
        clear t7
        go_wp2
        go_ret
        exact ⟨rfl, HBEL.out _ T7.out⟩
      · have hlen : L.length + [sg].length ≤ 140737488355328 := by rw [← HN.out]; simp; omega
        have HO6 : Hid (x5.ownsRow 0 5 1 (.slice (some ⟨g, 0, none⟩) n c) L.length (u8s L)) := Lib.hid (by have := ownsRow_base HO5.out (base' := 0) (fun k _ => Nat.zero_le k); rw [HN.out]; exact this)
        go_wp2_with
          (at_builtin
           (refine append_bytes rfl (.tmp 42) (.tmp 44) rfl 0 (.slice (some ⟨g, 0, none⟩) n c) L rfl (ownsRow_turn HO6.out (Turn.alloc [] x5 _) (fun _ _ => by simp)) (some ⟨x5.heap.size, 0, none⟩) 1 [sg] rfl (Sl.made x5 _ _ [sg] rfl (by simp [maxLen])) hlen (Nat.zero_le _) ?_)
           intro v7 x7 o7 g7 l7
           obtain ⟨a7, c7, hv, hs7, -⟩ := Sl.of_owns o7
           obtain ⟨n7, hn7⟩ : ∃ m, m = (L ++ [sg]).length := ⟨_, rfl⟩
           rw [← hn7] at hv
           subst hv
           have HN7 := Lib.hid hn7
           have S7 := Lib.hid hs7
           have T7 : Hid (Turn [] w x7) := Lib.hid ((T5.out.trans (Turn.alloc [] x5 _) (by simp)).trans (Turn.grown (l := [g]) g7 (fun k hk => .inl (by injection hk with hk; simp [← hk]))) (fun i hi => .inr (by have := HGW.out; simp at hi; omega)))
           clear o7 g7 l7 hs7 hn7)
        refine (CT.out _ _ _ _ _ HN7.out S7.out).mono ?_
        rintro e x8 ⟨rfl, t8⟩
        have T8 := Lib.hid (T7.out.trans t8 (by simp))
        clear t8
        go_wp2
        go_ret
        exact ⟨rfl, HBEL.out _ T8.out⟩
  · have T4 := Lib.hid (T3.out.trans t4 (by simp))
    have HSB4 := Lib.hid (HSB3.out.turn t4)
    clear t4 hb
    go_wp2_with fail
    refine (CT.out x4 sb scb ls ns HNS.out HSB4.out).mono ?_
    rintro e x5 ⟨rfl, t5⟩
    have T5 := Lib.hid (T4.out.trans t5 (by simp))
    have HSB5 := Lib.hid (HSB4.out.turn t5)
    clear t5
    go_wp2_with fail
    refine (CT.out x5 sb scb ls ns HNS.out HSB5.out).mono ?_
    rintro e x6 ⟨rfl, t6⟩
    have T6 := Lib.hid (T5.out.trans t6 (by simp))
    clear t6
    go_wp2
    go_ret
    exact ⟨rfl, HBEL.out _ T6.out⟩

end Go.Proofs.Ytanjbbmgpodbgaa
