/-
  slices.Delete of one kind out of a row.
-/
import Derived.Test.YtikbldnekehodaaRow2
namespace Go.Proofs.Ytikbldnekehodaa
open Go.RowKit

/-- append(s, x...) of things of sz cells each, where there is room. -/
theorem run_append_rowN {P : Program} (w : World) (dT sT ty elem : TypeId) (g sLen sCap : Nat) (a : Addr) (xLen xCap sz : Nat) (cur : Array Value) (t : TypeId) (cs : List Value) (i0 : TypeInfo)
    (hu : P.underlying dT = some (.slice elem)) (hu2 : P.underlying sT = some (.slice elem)) (hi : P.info? elem = some i0) (hs : i0.size = sz)
    (hg : w.heap[g]? = some (.cells cur t (0, 0))) (hn : cs.length = xLen * sz) (hroom : sLen + xLen ≤ sCap)
    (hsrc : ∀ j v, cs[j]? = some v → w.cell? (a.add j) = some v) (hfit : sLen * sz + cs.length ≤ cur.size) (h1 : ∀ v ∈ cs, v.oneCell' = true) :
    (Builtin.append_ #[dT, sT] ty #[.slice (some ⟨g, 0, none⟩) sLen sCap, .slice (some a) xLen xCap]).run P w =
      .ok (.slice (some ⟨g, 0, none⟩) (sLen + xLen) sCap) (w.setRow g (cur.toList.take (sLen * sz) ++ cs ++ cur.toList.drop (sLen * sz + cs.length)).toArray) := by
  have hl := run_loadCells_list (P := P) w a cs hsrc
  have hst := run_storeCells_at P g (sLen * sz) t cs 0 cur w hg (by simpa using hfit) h1
  rw [hn] at hl
  have e0 : (⟨g, 0, none⟩ : Addr).add (sLen * sz) = ⟨g, sLen * sz, none⟩ := by rw [Addr.add_lit, Nat.zero_add]
  simp [Builtin.append_, run_underlying hu, run_underlying hu2, sizeOf, typeInfo, hi, hs, Builtin.lenOf, Builtin.firstCells, hroom, hl, e0]
  simp at hst
  rw [hst]
  rfl

/-- clear(s) of things of sz cells each. -/
theorem run_clear_rowN {P : Program} (w : World) (dT ty elem : TypeId) (g o n c : Nat) (cur : Array Value) (t : TypeId) (z : Value) (i0 : TypeInfo)
    (hu : P.underlying dT = some (.slice elem)) (hi : P.info? elem = some i0) (hz : i0.zero = some z) (hn : 0 < n)
    (hg : w.heap[g]? = some (.cells cur t (0, 0))) (zs : List Value) (hzs : (Builtin.zeroCells z.cells n).toList = zs) (hfit : o + zs.length ≤ cur.size) (h1 : ∀ v ∈ zs, v.oneCell' = true) :
    (Builtin.clear_ #[dT] ty #[.slice (some ⟨g, o, none⟩) n c]).run P w =
      .ok (.tuple #[]) (w.setRow g (cur.toList.take o ++ zs ++ cur.toList.drop (o + zs.length)).toArray) := by
  have hst := run_storeCells_at P g o t zs 0 cur w hg (by simpa using hfit) h1
  cases n with
  | zero => omega
  | succ n =>
    simp [Builtin.clear_, run_underlying hu, zeroValue, typeInfo, hi, hz, hzs]
    simp at hst
    rw [hst]
    rfl

def delK (K : List (Int × Int)) (i : Nat) : List (Int × Int) := K.take i ++ K.drop (i + 1)

theorem delK_length {K : List (Int × Int)} {i : Nat} (h : i < K.length) : (delK K i).length = K.length - 1 := by simp [delK]; omega

theorem kcells_del (K : List (Int × Int)) (i : Nat) : kcells (delK K i) = (kcells K).take (i * 2) ++ (kcells K).drop ((i + 1) * 2) := by
  rw [delK, kcells_append, kcells_take, kcells_drop]

theorem del_row {C L : List Value} {i n : Nat} (hL : C.take (n * 2) = L) (hl : L.length = n * 2) (hi : i < n) {C1 C2 zs : List Value} (hz : zs.length = 2)
    (hC : n * 2 ≤ C.length)
    (h1 : C1 = C.take (i * 2) ++ L.drop ((i + 1) * 2) ++ C.drop (i * 2 + (L.drop ((i + 1) * 2)).length)) (h2 : C2 = C1.take ((n - 1) * 2) ++ zs ++ C1.drop ((n - 1) * 2 + zs.length)) :
    C1.length = C.length ∧ C2.length = C.length ∧ C2.take ((n - 1) * 2) = L.take (i * 2) ++ L.drop ((i + 1) * 2) := by
  have hdl : (L.drop ((i + 1) * 2)).length = n * 2 - (i + 1) * 2 := by rw [List.length_drop, hl]
  have htl : (C.take (i * 2)).length = i * 2 := by rw [List.length_take]; omega
  have e0 : C.take (i * 2) = L.take (i * 2) := by rw [← hL, List.take_take, Nat.min_eq_left (by omega)]
  have hl1 : C1.length = C.length := by
    rw [h1]
    simp only [List.length_append, List.length_take, List.length_drop]
    omega
  have hA : (C.take (i * 2) ++ L.drop ((i + 1) * 2)).length = (n - 1) * 2 := by rw [List.length_append, htl, hdl]; omega
  have e1 : C1.take ((n - 1) * 2) = L.take (i * 2) ++ L.drop ((i + 1) * 2) := by rw [h1, List.take_left' hA, e0]
  have hA' : (L.take (i * 2) ++ L.drop ((i + 1) * 2)).length = (n - 1) * 2 := by rw [← e0]; exact hA
  rw [e1] at h2
  refine ⟨hl1, ?_, ?_⟩
  · rw [h2, List.length_append, List.length_append, hA', hz, List.length_drop, hl1]
    omega
  · rw [h2, List.append_assoc, List.take_left' hA']

set_option maxHeartbeats 2000000 in
set_option maxRecDepth 100000 in
theorem delete_calls {w : World} {v : Value} {K : List (Int × Int)} (h : w.ownsRow 0 72 2 v K.length (kcells K)) (hfew : K.length ≤ 1000) {i : Nat} (hi : i < K.length) :
    Calls Try.prog 71 #[v, .int .i64 (i : Int), .int .i64 ((i + 1 : Nat) : Int)] w fun e w' =>
      ∃ v', e = .returned v' ∧ w'.ownsRow 0 72 2 v' (delK K i).length (kcells (delK K i)) ∧ v'.ownBlock = v.ownBlock ∧ Turn v.ownBlock.toList w w' := by
  rcases h.2 with ⟨rfl, h0⟩ | ⟨g, cap, cur, rfl, _, hg, hle, hmx, hsz, htk⟩
  · omega
  obtain ⟨n, hn⟩ : ∃ n, n = K.length := ⟨_, rfl⟩
  have hkl := kcells_length K
  have HN := Lib.hid hn
  obtain ⟨L, hL⟩ : ∃ L, L = kcells K := ⟨_, rfl⟩
  rw [delK_length hi]
  rw [← hL] at htk hkl
  rw [← hn] at hi hle hfew htk hkl ⊢
  obtain ⟨i0, hi0, hz0, hz1, hz2⟩ := info_parts Try.krow
  unfold maxLen at hmx
  clear hn h
  have hg0 : w.drew.heap[g]? = some (.cells cur 72 (0, 0)) := hg
  have hdl : (L.drop ((i + 1) * 2)).length = (n - (i + 1)) * 2 := by rw [List.length_drop, hkl]; omega
  obtain ⟨C1, hC1⟩ : ∃ C1, C1 = cur.toList.take (i * 2) ++ L.drop ((i + 1) * 2) ++ cur.toList.drop (i * 2 + (L.drop ((i + 1) * 2)).length) := ⟨_, rfl⟩
  obtain ⟨C2, hC2⟩ : ∃ C2, C2 = C1.take ((n - 1) * 2) ++ [.int .i64 0, .int .i64 0] ++ C1.drop ((n - 1) * 2 + [Value.int .i64 0, .int .i64 0].length) := ⟨_, rfl⟩
  obtain ⟨hl1, hl2, htk2⟩ := del_row htk hkl hi rfl (by rw [Array.length_toList]; omega) hC1 hC2
  have hap : ∀ a, (n - (i + 1) = 0 ∨ a = (⟨g, (i + 1) * 2, none⟩ : Addr)) → _ := fun a ha => run_append_rowN (P := Try.prog) w.drew 65 65 65 72 g i cap a (n - (i + 1)) (cap - (i + 1)) 2 cur _ (L.drop ((i + 1) * 2)) i0 Try.underlying65 Try.underlying65 hi0 hz1 hg0 hdl (by omega)
    (fun j v hj => by
      rcases ha with ha | rfl
      · rw [List.getElem?_eq_none (by omega)] at hj; cases hj
      rw [Addr.add_lit, cell_of_row _ _ _ _ _ _ hg0]
      rw [List.getElem?_drop, ← htk] at hj
      have h9 : (i + 1) * 2 + j < n * 2 := by
        rcases Nat.lt_or_ge ((i + 1) * 2 + j) (n * 2) with h | h
        · exact h
        · rw [List.getElem?_eq_none (by rw [List.length_take]; omega)] at hj; cases hj
      rw [List.getElem?_take_of_lt h9] at hj
      simpa using hj)
    (by rw [hdl, hsz]; omega) (fun v hv => kcells_one K v (by rw [← hL]; exact List.mem_of_mem_drop hv))
  rw [← hC1, show i + (n - (i + 1)) = n - 1 by omega] at hap
  obtain ⟨W1, hW1⟩ : ∃ W1, W1 = w.drew.setRow g C1.toArray := ⟨_, rfl⟩
  rw [← hW1] at hap
  have hg1 : W1.heap[g]? = some (.cells C1.toArray 72 (0, 0)) := by rw [hW1]; exact setRow_heap _ _ _ _ _ _ hg0
  have t1 : Turn [g] w W1 := Turn.rows (by simp) (Turn.drew _ w) ⟨_, hW1⟩
  have hcl := run_clear_rowN (P := Try.prog) W1 65 0 72 g ((n - 1) * 2) 1 (cap - (n - 1)) C1.toArray _ _ i0 Try.underlying65 hi0 hz0 (by omega) hg1 [.int .i64 0, .int .i64 0] (by kernel_rfl) (by simp [hl1, hsz]; omega) (by intro u hu; simp at hu; rw [hu]; rfl)
  rw [show C1.toArray.toList = C1 from rfl, ← hC2] at hcl
  obtain ⟨W2, hW2⟩ : ∃ W2, W2 = W1.setRow g C2.toArray := ⟨_, rfl⟩
  rw [← hW2] at hcl
  have HAP := Lib.hid hap
  have HCL := Lib.hid hcl
  have T2 := Lib.hid (Turn.rows (g := g) (by simp) t1 ⟨_, hW2⟩)
  have R2 : Hid (W2.ownsRow 0 72 2 (.slice (some ⟨g, 0, none⟩) (n - 1) cap) (n - 1) (kcells (delK K i))) := Lib.hid (by
    refine ⟨by rw [kcells_length, delK_length (by rw [← HN.out]; exact hi), HN.out], .inr ⟨g, cap, C2.toArray, rfl, Nat.zero_le _, by rw [hW2]; exact setRow_heap _ _ _ _ _ _ hg1, by omega, by unfold maxLen; omega, by simp [hl2, hsz], ?_⟩⟩
    rw [kcells_del, ← hL]
    exact htk2)
  clear hap hcl hg0 hg1 hC1 hC2 hl1 hl2 htk2 t1 hW1 hW2 hdl hg hsz htk hkl hL hi0 hz0 hz1 hz2
  obtain ⟨A, hA, hA2⟩ : ∃ A, (if cap = i + 1 then some (⟨g, 0, none⟩ : Addr) else some ⟨g, (i + 1) * 2, none⟩) = some A ∧ (n - (i + 1) = 0 ∨ A = (⟨g, (i + 1) * 2, none⟩ : Addr)) := by
    by_cases hc : cap = i + 1
    · exact ⟨_, if_pos hc, .inl (by omega)⟩
    · exact ⟨_, if_neg hc, .inr rfl⟩
  have hb1 : (0 : Int) ≤ ((i + 1 : Nat) : Int) := by omega
  have hb2 : ((i + 1 : Nat) : Int) ≤ (n : Int) := by omega
  have hb4 : i + 1 ≤ n := by omega
  have hb5 : (i : Int) + 1 ≤ (n : Int) := by omega
  have hb6 : ¬ cap < i := by omega
  have hb7 : ¬ (i : Int) + 1 < 0 := by omega
  go_enter Try.func71, Try.ntmps71
  go_wp2_with fail
  refine wp_region_any (by kernel_rfl) ?_
  refine any_take (i := 0) (d := some 20) (v := ?_) rfl (by rfl) (by kernel_rfl) (by kernel_rfl) (by kernel_rfl) (fun _ _ _ h => h) (by rfl) ?_ ?_
  rotate_left
  · intro wz
    go_simp
    try with_reducible rfl
  simp only [Act.put, List.setIfInBounds_toArray, List.set_cons_zero, List.set_cons_succ]
  refine any_take (i := 1) (d := some 21) (v := ?_) rfl (by rfl) (by kernel_rfl) (by kernel_rfl) (by kernel_rfl) (fun _ _ _ h => h) (by rfl) ?_ ?_
  rotate_left
  · intro wz
    go_simp
    try with_reducible rfl
  simp only [Act.put, List.setIfInBounds_toArray, List.set_cons_zero, List.set_cons_succ]
  refine any_take (i := 2) (d := some 22) (v := .slice (some ⟨g, 0, none⟩) i cap) rfl (by rfl) (by kernel_rfl) (by kernel_rfl) (by kernel_rfl) (fun _ _ _ h => h) (by rfl) ?_ ?_
  · intro wz
    go_simp
  simp only [Act.put, List.setIfInBounds_toArray, List.set_cons_zero, List.set_cons_succ]
  refine any_take (i := 3) (d := some 23) (v := ?_) rfl (by rfl) (by kernel_rfl) (by kernel_rfl) (by kernel_rfl) (fun _ _ _ h => h) (by rfl) ?_ ?_
  rotate_left
  · intro wz
    go_simp
    try with_reducible rfl
  simp only [Act.put, List.setIfInBounds_toArray, List.set_cons_zero, List.set_cons_succ]
  refine any_take (i := 4) (d := some 24) (v := ?_) rfl (by rfl) (by kernel_rfl) (by kernel_rfl) (by kernel_rfl) (fun _ _ _ h => h) (by rfl) ?_ ?_
  rotate_left
  · intro wz
    go_simp
    try with_reducible rfl
  simp only [Act.put, List.setIfInBounds_toArray, List.set_cons_zero, List.set_cons_succ]
  refine any_take (i := 5) (d := some 25) (v := .slice (some A) (n - (i + 1)) (cap - (i + 1))) rfl (by rfl) (by kernel_rfl) (by kernel_rfl) (by kernel_rfl) (fun _ _ _ h => h) (by rfl) ?_ ?_
  · intro wz
    go_simp
  simp only [Act.put, List.setIfInBounds_toArray, List.set_cons_zero, List.set_cons_succ]
  refine any_one (i := 6) (by kernel_rfl) (by rfl) (fun KK hKK => ?_)
  refine step_append (by rfl) (.tmp 22) (.tmp 25) 65 65 rfl _ _ rfl rfl (HAP.out A hA2) ?_
  refine hKK _ _ ?_
  show wpAny _ _ _ _ _ _ (Act.put _ (some 26) _) _
  simp only [Act.put, List.setIfInBounds_toArray, List.set_cons_zero, List.set_cons_succ]
  refine any_take (i := 7) (d := some 0) (v := ?_) rfl (by rfl) (by kernel_rfl) (by kernel_rfl) (by kernel_rfl) (fun _ _ _ h => h) (by rfl) ?_ ?_
  rotate_left
  · intro wz
    go_simp
    try with_reducible rfl
  simp only [Act.put, List.setIfInBounds_toArray, List.set_cons_zero]
  refine any_done (by kernel_rfl) ?_ _
  go_wp2_with fail
  rw [show n - (n - 1) = 1 by omega, HCL.out]
  go_wp2
  go_ret
  exact ⟨_, rfl, R2.out, rfl, T2.out⟩

end Go.Proofs.Ytikbldnekehodaa
