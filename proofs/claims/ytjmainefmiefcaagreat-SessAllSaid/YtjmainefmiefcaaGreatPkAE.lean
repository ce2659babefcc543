/-
  Of the texts SDel2 SBagA CmpS Bt Begun6 Kc Kown Krc, in build order, each as it was built alone.
-/
import Derived.Test.YtjmainefmiefcaaGreatPkAD
import Derived.Test.YtjmainefmiefcaaGreatPkAB
import Derived.Laws.RangeAny
import Derived.Laws.ResultCell

/-
  slices.Delete of one kind out of a row.
-/
namespace Go.Proofs.YtjmainefmiefcaaGreat.S
open Go.RowKit

/-- append(s, x...) of things of sz cells each, where there is room. -/
theorem run_append_rowN {P : Program} (w : World) (dT sT ty elem : TypeId) (g sLen sCap : Nat) (a : Addr) (xLen xCap sz : Nat) (cur : Array Value) (t : TypeId) (cs : List Value) (i0 : TypeInfo)
    (hu : P.underlying dT = some (.slice elem)) (hu2 : P.underlying sT = some (.slice elem)) (hi : P.info? elem = some i0) (hs : i0.size = sz)
    (hg : w.heap[g]? = some (.cells cur t (0, 0))) (hn : cs.length = xLen * sz) (hroom : sLen + xLen ≤ sCap)
    (hsrc : ∀ j v, cs[j]? = some v → w.cell? (a.add j) = some v) (hfit : sLen * sz + cs.length ≤ cur.size) (h1 : ∀ v ∈ cs, v.oneCell' = true) :
    (Builtin.append_ #[dT, sT] ty #[.slice (some ⟨g, 0, none⟩) sLen sCap, .slice (some a) xLen xCap]).run P w =
      .ok (.slice (some ⟨g, 0, none⟩) (sLen + xLen) sCap) (w.setRow g (cur.toList.take (sLen * sz) ++ cs ++ cur.toList.drop (sLen * sz + cs.length)).toArray) := by
  have hl := run_loadCells_list (P := P) w a cs hsrc
  have hst := run_storeCells_at P g (sLen * sz) t cs 0 cur w hg (by simpa using hfit) h1
  rw [hn] at hl
  have e0 : (⟨g, 0, none⟩ : Addr).add (sLen * sz) = ⟨g, sLen * sz, none⟩ := by rw [Addr.add_lit, Nat.zero_add]
  simp [Builtin.append_, run_underlying hu, run_underlying hu2, sizeOf, typeInfo, hi, hs, Builtin.lenOf, Builtin.firstCells, hroom, hl, e0]
  simp at hst
  rw [hst]
  rfl

/-- clear(s) of things of sz cells each. -/
theorem run_clear_rowN {P : Program} (w : World) (dT ty elem : TypeId) (g o n c : Nat) (cur : Array Value) (t : TypeId) (z : Value) (i0 : TypeInfo)
    (hu : P.underlying dT = some (.slice elem)) (hi : P.info? elem = some i0) (hz : i0.zero = some z) (hn : 0 < n)
    (hg : w.heap[g]? = some (.cells cur t (0, 0))) (zs : List Value) (hzs : (Builtin.zeroCells z.cells n).toList = zs) (hfit : o + zs.length ≤ cur.size) (h1 : ∀ v ∈ zs, v.oneCell' = true) :
    (Builtin.clear_ #[dT] ty #[.slice (some ⟨g, o, none⟩) n c]).run P w =
      .ok (.tuple #[]) (w.setRow g (cur.toList.take o ++ zs ++ cur.toList.drop (o + zs.length)).toArray) := by
  have hst := run_storeCells_at P g o t zs 0 cur w hg (by simpa using hfit) h1
  cases n with
  | zero => omega
  | succ n =>
    simp [Builtin.clear_, run_underlying hu, zeroValue, typeInfo, hi, hz, hzs]
    simp at hst
    rw [hst]
    rfl

def delK (K : List (ByteArray × Int)) (i : Nat) : List (ByteArray × Int) := K.take i ++ K.drop (i + 1)

theorem delK_length {K : List (ByteArray × Int)} {i : Nat} (h : i < K.length) : (delK K i).length = K.length - 1 := by simp [delK]; omega

theorem kcells_del (K : List (ByteArray × Int)) (i : Nat) : kcells (delK K i) = (kcells K).take (i * 2) ++ (kcells K).drop ((i + 1) * 2) := by
  rw [delK, kcells_append, kcells_take, kcells_drop]

theorem del_row {C L : List Value} {i n : Nat} (hL : C.take (n * 2) = L) (hl : L.length = n * 2) (hi : i < n) {C1 C2 zs : List Value} (hz : zs.length = 2)
    (hC : n * 2 ≤ C.length)
    (h1 : C1 = C.take (i * 2) ++ L.drop ((i + 1) * 2) ++ C.drop (i * 2 + (L.drop ((i + 1) * 2)).length)) (h2 : C2 = C1.take ((n - 1) * 2) ++ zs ++ C1.drop ((n - 1) * 2 + zs.length)) :
    C1.length = C.length ∧ C2.length = C.length ∧ C2.take ((n - 1) * 2) = L.take (i * 2) ++ L.drop ((i + 1) * 2) := by
  have hdl : (L.drop ((i + 1) * 2)).length = n * 2 - (i + 1) * 2 := by rw [List.length_drop, hl]
  have htl : (C.take (i * 2)).length = i * 2 := by rw [List.length_take]; omega
  have e0 : C.take (i * 2) = L.take (i * 2) := by rw [← hL, List.take_take, Nat.min_eq_left (by omega)]
  have hl1 : C1.length = C.length := by
    rw [h1]
    simp only [List.length_append, List.length_take, List.length_drop]
    omega
  have hA : (C.take (i * 2) ++ L.drop ((i + 1) * 2)).length = (n - 1) * 2 := by rw [List.length_append, htl, hdl]; omega
  have e1 : C1.take ((n - 1) * 2) = L.take (i * 2) ++ L.drop ((i + 1) * 2) := by rw [h1, List.take_left' hA, e0]
  have hA' : (L.take (i * 2) ++ L.drop ((i + 1) * 2)).length = (n - 1) * 2 := by rw [← e0]; exact hA
  rw [e1] at h2
  refine ⟨hl1, ?_, ?_⟩
  · rw [h2, List.length_append, List.length_append, hA', hz, List.length_drop, hl1]
    omega
  · rw [h2, List.append_assoc, List.take_left' hA']

set_option maxHeartbeats 2000000 in
set_option maxRecDepth 100000 in
theorem delete_calls {w : World} {v : Value} {K : List (ByteArray × Int)} (h : w.ownsRow 0 127 2 v K.length (kcells K)) (hfew : K.length ≤ 1000) {i : Nat} (hi : i < K.length) :
    Calls Tryz.prog 108 #[v, .int .i64 (i : Int), .int .i64 ((i + 1 : Nat) : Int)] w fun e w' =>
      ∃ v', e = .returned v' ∧ w'.ownsRow 0 127 2 v' (delK K i).length (kcells (delK K i)) ∧ v'.ownBlock = v.ownBlock ∧ Turn v.ownBlock.toList w w' := by
  rcases h.2 with ⟨rfl, h0⟩ | ⟨g, cap, cur, rfl, _, hg, hle, hmx, hsz, htk⟩
  · omega
  obtain ⟨n, hn⟩ : ∃ n, n = K.length := ⟨_, rfl⟩
  have hkl := kcells_length K
  have HN := Lib.hid hn
  obtain ⟨L, hL⟩ : ∃ L, L = kcells K := ⟨_, rfl⟩
  rw [delK_length hi]
  rw [← hL] at htk hkl
  rw [← hn] at hi hle hfew htk hkl ⊢
  obtain ⟨i0, hi0, hz0, hz1, hz2⟩ := info_parts Tryz.krow
  unfold maxLen at hmx
  clear hn h
  have hg0 : w.drew.heap[g]? = some (.cells cur 127 (0, 0)) := hg
  have hdl : (L.drop ((i + 1) * 2)).length = (n - (i + 1)) * 2 := by rw [List.length_drop, hkl]; omega
  obtain ⟨C1, hC1⟩ : ∃ C1, C1 = cur.toList.take (i * 2) ++ L.drop ((i + 1) * 2) ++ cur.toList.drop (i * 2 + (L.drop ((i + 1) * 2)).length) := ⟨_, rfl⟩
  obtain ⟨C2, hC2⟩ : ∃ C2, C2 = C1.take ((n - 1) * 2) ++ [.string ⟨#[]⟩, .int .i64 0] ++ C1.drop ((n - 1) * 2 + [Value.string ⟨#[]⟩, .int .i64 0].length) := ⟨_, rfl⟩
  obtain ⟨hl1, hl2, htk2⟩ := del_row htk hkl hi rfl (by rw [Array.length_toList]; omega) hC1 hC2
  have hap : ∀ a, (n - (i + 1) = 0 ∨ a = (⟨g, (i + 1) * 2, none⟩ : Addr)) → _ := fun a ha => run_append_rowN (P := Tryz.prog) w.drew 116 116 116 127 g i cap a (n - (i + 1)) (cap - (i + 1)) 2 cur _ (L.drop ((i + 1) * 2)) i0 Tryz.underlying116 Tryz.underlying116 hi0 hz1 hg0 hdl (by omega)
    (fun j v hj => by
      rcases ha with ha | rfl
      · rw [List.getElem?_eq_none (by omega)] at hj; cases hj
      rw [Addr.add_lit, cell_of_row _ _ _ _ _ _ hg0]
      rw [List.getElem?_drop, ← htk] at hj
      have h9 : (i + 1) * 2 + j < n * 2 := by
        rcases Nat.lt_or_ge ((i + 1) * 2 + j) (n * 2) with h | h
        · exact h
        · rw [List.getElem?_eq_none (by rw [List.length_take]; omega)] at hj; cases hj
      rw [List.getElem?_take_of_lt h9] at hj
      simpa using hj)
    (by rw [hdl, hsz]; omega) (fun v hv => kcells_one K v (by rw [← hL]; exact List.mem_of_mem_drop hv))
  rw [← hC1, show i + (n - (i + 1)) = n - 1 by omega] at hap
  obtain ⟨W1, hW1⟩ : ∃ W1, W1 = w.drew.setRow g C1.toArray := ⟨_, rfl⟩
  rw [← hW1] at hap
  have hg1 : W1.heap[g]? = some (.cells C1.toArray 127 (0, 0)) := by rw [hW1]; exact setRow_heap _ _ _ _ _ _ hg0
  have t1 : Turn [g] w W1 := Turn.rows (by simp) (Turn.drew _ w) ⟨_, hW1⟩
  have hcl := run_clear_rowN (P := Tryz.prog) W1 116 0 127 g ((n - 1) * 2) 1 (cap - (n - 1)) C1.toArray _ _ i0 Tryz.underlying116 hi0 hz0 (by omega) hg1 [.string ⟨#[]⟩, .int .i64 0] (by kernel_rfl) (by simp [hl1, hsz]; omega) (by intro u hu; simp at hu; rcases hu with rfl | rfl <;> rfl)
  rw [show C1.toArray.toList = C1 from rfl, ← hC2] at hcl
  obtain ⟨W2, hW2⟩ : ∃ W2, W2 = W1.setRow g C2.toArray := ⟨_, rfl⟩
  rw [← hW2] at hcl
  have HAP := Lib.hid hap
  have HCL := Lib.hid hcl
  have T2 := Lib.hid (Turn.rows (g := g) (by simp) t1 ⟨_, hW2⟩)
  have R2 : Hid (W2.ownsRow 0 127 2 (.slice (some ⟨g, 0, none⟩) (n - 1) cap) (n - 1) (kcells (delK K i))) := Lib.hid (by
    refine ⟨by rw [kcells_length, delK_length (by rw [← HN.out]; exact hi), HN.out], .inr ⟨g, cap, C2.toArray, rfl, Nat.zero_le _, by rw [hW2]; exact setRow_heap _ _ _ _ _ _ hg1, by omega, by unfold maxLen; omega, by simp [hl2, hsz], ?_⟩⟩
    rw [kcells_del, ← hL]
    exact htk2)
  clear hap hcl hg0 hg1 hC1 hC2 hl1 hl2 htk2 t1 hW1 hW2 hdl hg hsz htk hkl hL hi0 hz0 hz1 hz2
  obtain ⟨A, hA, hA2⟩ : ∃ A, (if cap = i + 1 then some (⟨g, 0, none⟩ : Addr) else some ⟨g, (i + 1) * 2, none⟩) = some A ∧ (n - (i + 1) = 0 ∨ A = (⟨g, (i + 1) * 2, none⟩ : Addr)) := by
    by_cases hc : cap = i + 1
    · exact ⟨_, if_pos hc, .inl (by omega)⟩
    · exact ⟨_, if_neg hc, .inr rfl⟩
  have hb1 : (0 : Int) ≤ ((i + 1 : Nat) : Int) := by omega
  have hb2 : ((i + 1 : Nat) : Int) ≤ (n : Int) := by omega
  have hb4 : i + 1 ≤ n := by omega
  have hb5 : (i : Int) + 1 ≤ (n : Int) := by omega
  have hb6 : ¬ cap < i := by omega
  have hb7 : ¬ (i : Int) + 1 < 0 := by omega
  go_enter Tryz.func108, Tryz.ntmps108
  go_wp2_with fail
  refine wp_region_any (by kernel_rfl) ?_
  refine any_take (i := 0) (d := some 20) (v := ?_) rfl (by rfl) (by kernel_rfl) (by kernel_rfl) (by kernel_rfl) (fun _ _ _ h => h) (by rfl) ?_ ?_
  rotate_left
  · intro wz
    go_simp
    try with_reducible rfl
  simp only [Act.put, List.setIfInBounds_toArray, List.set_cons_zero, List.set_cons_succ]
  refine any_take (i := 1) (d := some 21) (v := ?_) rfl (by rfl) (by kernel_rfl) (by kernel_rfl) (by kernel_rfl) (fun _ _ _ h => h) (by rfl) ?_ ?_
  rotate_left
  · intro wz
    go_simp
    try with_reducible rfl
  simp only [Act.put, List.setIfInBounds_toArray, List.set_cons_zero, List.set_cons_succ]
  refine any_take (i := 2) (d := some 22) (v := .slice (some ⟨g, 0, none⟩) i cap) rfl (by rfl) (by kernel_rfl) (by kernel_rfl) (by kernel_rfl) (fun _ _ _ h => h) (by rfl) ?_ ?_
  · intro wz
    go_simp
  simp only [Act.put, List.setIfInBounds_toArray, List.set_cons_zero, List.set_cons_succ]
  refine any_take (i := 3) (d := some 23) (v := ?_) rfl (by rfl) (by kernel_rfl) (by kernel_rfl) (by kernel_rfl) (fun _ _ _ h => h) (by rfl) ?_ ?_
  rotate_left
  · intro wz
    go_simp
    try with_reducible rfl
  simp only [Act.put, List.setIfInBounds_toArray, List.set_cons_zero, List.set_cons_succ]
  refine any_take (i := 4) (d := some 24) (v := ?_) rfl (by rfl) (by kernel_rfl) (by kernel_rfl) (by kernel_rfl) (fun _ _ _ h => h) (by rfl) ?_ ?_
  rotate_left
  · intro wz
    go_simp
    try with_reducible rfl
  simp only [Act.put, List.setIfInBounds_toArray, List.set_cons_zero, List.set_cons_succ]
  refine any_take (i := 5) (d := some 25) (v := .slice (some A) (n - (i + 1)) (cap - (i + 1))) rfl (by rfl) (by kernel_rfl) (by kernel_rfl) (by kernel_rfl) (fun _ _ _ h => h) (by rfl) ?_ ?_
  · intro wz
    go_simp
  simp only [Act.put, List.setIfInBounds_toArray, List.set_cons_zero, List.set_cons_succ]
  refine any_one (i := 6) (by kernel_rfl) (by rfl) (fun KK hKK => ?_)
  refine step_append (by rfl) (.tmp 22) (.tmp 25) 116 116 rfl _ _ rfl rfl (HAP.out A hA2) ?_
  refine hKK _ _ ?_
  show wpAny _ _ _ _ _ _ (Act.put _ (some 26) _) _
  simp only [Act.put, List.setIfInBounds_toArray, List.set_cons_zero, List.set_cons_succ]
  refine any_take (i := 7) (d := some 0) (v := ?_) rfl (by rfl) (by kernel_rfl) (by kernel_rfl) (by kernel_rfl) (fun _ _ _ h => h) (by rfl) ?_ ?_
  rotate_left
  · intro wz
    go_simp
    try with_reducible rfl
  simp only [Act.put, List.setIfInBounds_toArray, List.set_cons_zero]
  refine any_done (by kernel_rfl) ?_ _
  go_wp2_with fail
  rw [show n - (n - 1) = 1 by omega, HCL.out]
  go_wp2
  go_ret
  exact ⟨_, rfl, R2.out, rfl, T2.out⟩

end Go.Proofs.YtjmainefmiefcaaGreat.S


/-
  A bag of texts: change, Add.
-/
namespace Go.Proofs.YtjmainefmiefcaaGreat.S
open Go.RowKit

/-- How many there are then. -/
def nowK (a n : Int) : Int := max (plusZ a n) 0

/-- What a change leaves. -/
def chgK (K : List (ByteArray × Int)) (m : Nat) (n : Int) : List (ByteArray × Int) := if nowK (K.getD m (⟨#[]⟩, 0)).2 n = 0 then delK K m else K.set m ((K.getD m (⟨#[]⟩, 0)).1, nowK (K.getD m (⟨#[]⟩, 0)).2 n)

theorem kcells_set : ∀ (K : List (ByteArray × Int)) (m : Nat) (h : m < K.length) (y : Int), kcells (K.set m (K[m].1, y)) = (kcells K).set (m * 2 + 1) (.int .i64 y)
  | p :: K, 0, _, y => rfl
  | p :: K, m + 1, h, y => by
    have ih := kcells_set K m (by simpa using h) y
    have e : kcells (p :: K) = .string p.1 :: .int .i64 p.2 :: kcells K := rfl
    have e2 : ∀ q Z, kcells (q :: Z) = .string q.1 :: .int .i64 q.2 :: kcells Z := fun _ _ => rfl
    rw [List.set_cons_succ, e2, e, show (m + 1) * 2 + 1 = (m * 2 + 1) + 1 + 1 by omega, List.set_cons_succ, List.set_cons_succ, ← ih]
    rfl

theorem delK_mem {K : List (ByteArray × Int)} {m : Nat} {p : ByteArray × Int} (h : p ∈ delK K m) : p ∈ K := by
  rcases List.mem_append.1 h with h1 | h1
  · exact List.mem_of_mem_take h1
  · exact List.mem_of_mem_drop h1

theorem nowK_bounds {a n : Int} (hn : inI64 n) : 0 ≤ nowK a n ∧ nowK a n ≤ 9223372036854775807 := by
  unfold nowK plusZ
  obtain ⟨h1, h2⟩ := hn
  split <;> omega

theorem owns_slice {w : World} {B e s n : Nat} {v : Value} {xs : List Value} (h : w.ownsRow B e s v n xs) : ∃ ao c, v = .slice ao n c := by
  rcases h.2 with ⟨rfl, h0⟩ | ⟨g, cap, cur, rfl, _⟩
  · subst h0
    exact ⟨none, 0, rfl⟩
  · exact ⟨_, cap, rfl⟩

/-- The kinds' slice is another one now. -/
theorem BagI.put {w w2 : World} {b : Nat} {fv v v2 : Value} {K K2 : List (ByteArray × Int)} (h : BagI w b fv v K) (t : Turn v.ownBlock.toList w w2) (hr : w2.ownsRow 0 127 2 v2 K2.length (kcells K2))
    (ho : v2.ownBlock = v.ownBlock ∨ ∀ k, v2.ownBlock = some k → w.heap.size ≤ k) (hn : ∀ p ∈ K2, okS p.1 ∧ 1 ≤ p.2 ∧ p.2 ≤ 9223372036854775807) (hf : K2.length ≤ 1000) :
    w2.heap[b]? = some (.cells #[fv, v] 118) ∧ BagI (w2.setCell ⟨b, 1, none⟩ v2) b fv v2 K2 ∧ Turn (b :: v.ownBlock.toList) w (w2.setCell ⟨b, 1, none⟩ v2) := by
  have hb : b ∉ v.ownBlock.toList := fun hm => h.apart (Option.mem_toList.1 hm)
  have hd := t.heap h.head hb
  have hbw := lt_of_heap h.head
  have hap : v2.ownBlock ≠ some b := by
    intro e
    rcases ho with h1 | h1
    · exact h.apart (by rw [← h1]; exact e)
    · have := h1 b e; omega
  have ts : Turn [b] w2 (w2.setCell ⟨b, 1, none⟩ v2) := Turn.setCell _ (by simp) _
  refine ⟨hd, ⟨by rw [block_set hd]; rfl, ownsRow_turn hr ts (fun k hk hm => hap (by rw [hk, List.mem_singleton.1 hm])), hap, hn, hf⟩, ?_⟩
  exact (t.mono (fun i hi => .inl (List.mem_cons_of_mem _ hi))).trans ts (fun i hi => .inl (by rw [List.mem_singleton.1 hi]; simp))

theorem cells_of_head {w : World} {b : Nat} {fv v : Value} {t : TypeId} (h : w.heap[b]? = some (.cells #[fv, v] t)) : w.cell? ⟨b, 0, none⟩ = some fv ∧ w.cell? ⟨b, 1, none⟩ = some v ∧ w.frozen? ⟨b, 1, none⟩ = false := by
  refine ⟨?_, ?_, unfrozen_of h⟩ <;> rw [cell_of_row _ _ _ _ _ _ h] <;> rfl

set_option maxHeartbeats 2000000 in
set_option maxRecDepth 100000 in
theorem changeI {w : World} {b : Nat} {fv v : Value} {K : List (ByteArray × Int)} (h : BagI w b fv v K) {m : Nat} (hm : m < K.length) {n : Int} (hn : inI64 n) :
    Calls Tryz.prog 84 #[.pointer (some ⟨b, 0, none⟩), .int .i64 (m : Int), .int .i64 n] w fun e w' =>
      ∃ v', e = .returned (.int .i64 (nowK (K.getD m (⟨#[]⟩, 0)).2 n)) ∧ BagI w' b fv v' (chgK K m n) ∧ v'.ownBlock = v.ownBlock ∧ Turn (b :: v.ownBlock.toList) w w' := by
  have hgd : K.getD m (⟨#[]⟩, 0) = K[m] := by simp [List.getD, hm]
  have hk := h.nums K[m] (List.getElem_mem hm)
  obtain ⟨y, hy⟩ : ∃ y, y = K[m].2 := ⟨_, rfl⟩
  obtain ⟨r, hr⟩ : ∃ r, r = nowK y n := ⟨_, rfl⟩
  have hrb := nowK_bounds (a := y) hn
  rw [← hr] at hrb
  have hfew := h.few
  obtain ⟨L, hL⟩ : ∃ L, L = K.length := ⟨_, rfl⟩
  have PC := Lib.hid (plus_calls y n (by rw [hy]; omega) hn w)
  obtain ⟨s, hs⟩ : ∃ s, s = plusZ y n := ⟨_, rfl⟩
  rw [← hs] at PC
  have hsr : max s 0 = r := by rw [hs, hr]; rfl
  have hchg : chgK K m n = if r = 0 then delK K m else K.set m (K[m].1, r) := by unfold chgK; rw [hgd, ← hy, ← hr]
  rw [hgd, ← hy, ← hr, hchg]
  have hb : 0 ≤ (m : Int) ∧ (m : Int) < (L : Int) := by omega
  by_cases hr0 : r = 0
  · rw [if_pos hr0]
    subst hr0
    have HDEL := Lib.hid (delete_calls h.row hfew hm)
    have H := Lib.hid h
    obtain ⟨ao, cap, rfl, hle, hmx, hat⟩ := h.kinds
    obtain ⟨g, rfl, -, hk1⟩ := hat m hm
    obtain ⟨c0, c1⟩ := h.cells
    rw [← hy] at hk1
    have HL := Lib.hid hL
    rw [← hL] at c1 hle hfew hm HDEL
    have HM := Lib.hid hm
    rw [show ((m + 1 : Nat) : Int) = (m : Int) + 1 by omega] at HDEL
    clear h hat hL hk hy hgd hchg hr hs hm
    go_enter Tryz.func84, Tryz.ntmps84
    go_wp2_with fail
    refine PC.out.mono ?_
    rintro e w1 ⟨rfl, rfl⟩
    clear PC
    go_wp2_with fail
    refine HDEL.out.mono ?_
    rintro e w2 ⟨v2, rfl, hr2, ho2, t2⟩
    obtain ⟨l2, hl2⟩ : ∃ l, l = (delK K m).length := ⟨_, rfl⟩
    obtain ⟨ao2, cp2, hv2⟩ := owns_slice hr2
    rw [← hl2] at hv2
    subst hv2
    obtain ⟨hd2, h3, t3⟩ := H.out.put t2 hr2 (.inl ho2) (fun p hp => H.out.nums p (delK_mem hp)) (by rw [delK_length (by rw [← HL.out]; exact HM.out), ← HL.out]; omega)
    obtain ⟨d0, d1, d2⟩ := cells_of_head hd2
    have H3 := Lib.hid h3
    have T3 := Lib.hid t3
    have HO := Lib.hid ho2
    clear hd2 h3 t3 hr2 ho2 t2 HDEL hl2
    go_wp2
    go_ret
    exact ⟨_, rfl, H3.out, HO.out, T3.out⟩
  · rw [if_neg hr0]
    have H := Lib.hid h
    have hst := h.row
    obtain ⟨-, ⟨-, h0⟩ | ⟨g, cap, cur, rfl, -, hg, hle, hmx, hsz, htk⟩⟩ := id h.row
    · omega
    have hk1 : w.cell? ⟨g, m * 2 + 1, none⟩ = some (.int .i64 y) := by
      obtain ⟨ao, cp, he, -, -, hat⟩ := h.kinds
      obtain ⟨g', rfl, -, h2⟩ := hat m hm
      simp only [Value.slice.injEq, Option.some.injEq, Addr.mk.injEq, true_and, and_true] at he
      rw [he.1, hy]
      exact h2
    obtain ⟨c0, c1⟩ := h.cells
    have hfz : w.frozen? ⟨g, m * 2 + 1, none⟩ = false := unfrozen_of hg
    have hgb : g ≠ b := fun e => h.apart (by rw [← e]; rfl)
    obtain ⟨w2, hw2⟩ : ∃ w2, w2 = w.setCell ⟨g, m * 2 + 1, none⟩ (.int .i64 r) := ⟨_, rfl⟩
    have ts : Turn [g] w w2 := by rw [hw2]; exact Turn.setCell _ (by simp) _
    have H3 : Hid (BagI w2 b fv (.slice (some ⟨g, 0, none⟩) K.length cap) (K.set m (K[m].1, r))) := Lib.hid (by
      refine ⟨ts.heap h.head (by simpa using fun e => hgb e.symm), ?_, h.apart, fun p hp => ?_, by rw [List.length_set]; exact hfew⟩
      · have h1 := (hst.stored (m * 2 + 1) (.int .i64 r)).1
        rw [← hw2] at h1
        rw [List.length_set, kcells_set K m hm r]
        exact h1
      · rcases List.mem_or_eq_of_mem_set hp with h1 | rfl
        · exact h.nums p h1
        · exact ⟨hk.1, by omega, hrb.2⟩)
    have T3 : Hid (Turn (b :: (Value.slice (some ⟨g, 0, none⟩) K.length cap).ownBlock.toList) w w2) := Lib.hid (ts.mono (fun i hi => .inl (by rw [List.mem_singleton.1 hi]; simp [Value.ownBlock])))
    have HW := Lib.hid hw2
    have hr1 : (r == 0) = false := by simpa using hr0
    rw [← hL] at c1 hle hfew
    have hL' := Lib.hid hL
    clear h hst hL hk hy hgd hchg hr hs ts hw2 hsz htk hg
    go_enter Tryz.func84, Tryz.ntmps84
    go_wp2_with fail
    refine PC.out.mono ?_
    rintro e w1 ⟨rfl, rfl⟩
    clear PC
    go_wp2
    rw [← HW.out]
    go_ret
    exact ⟨_, rfl, H3.out, rfl, T3.out⟩

theorem found_no {m l : Nat} {z : Int} (hf : ¬ (m < l ∧ z = 0)) : (decide (m < l) && (z == 0)) = false := by
  rw [Bool.and_eq_false_iff]
  by_cases h1 : m < l
  · exact .inr (by simpa using fun h2 => hf ⟨h1, h2⟩)
  · exact .inl (by simpa using h1)

set_option maxHeartbeats 2000000 in
set_option maxRecDepth 100000 in
/-- Add of what is there. -/
theorem addI_found {w : World} {b kc : Nat} {cap : Array Value} {v : Value} {K : List (ByteArray × Int)} {c : ByteArray → ByteArray → Int} {ok : World → Prop} (h : BagI w b (.func (.func kc) #[] cap) v K) (hc : CmpOk kc cap c ok) (hok : ok w) {x : ByteArray} (hx : okS x) {n : Int} (hn : inI64 n) {m : Nat} (hm : m < K.length)
    (hlo : ∀ i (hi : i < K.length), i < m → 0 < c x K[i].1) (hhi : ∀ i (hi : i < K.length), m ≤ i → c x K[i].1 ≤ 0) (hf : c x (K.getD m (⟨#[]⟩, 0)).1 = 0) :
    Calls Tryz.prog 61 #[.pointer (some ⟨b, 0, none⟩), .string x, .int .i64 n] w fun e w' =>
      ∃ v', e = .returned (.int .i64 (nowK (K.getD m (⟨#[]⟩, 0)).2 n)) ∧ BagI w' b (.func (.func kc) #[] cap) v' (chgK K m n) ∧ v'.ownBlock = v.ownBlock ∧ Turn (b :: v.ownBlock.toList) w w' := by
  have FC := Lib.hid (find_calls h hc hok hx (Nat.le_of_lt hm) hlo hhi)
  rw [show (decide (m < K.length) && (c x (K.getD m (⟨#[]⟩, 0)).1 == 0)) = true by rw [hf]; simp [hm]] at FC
  have H := Lib.hid h
  have HM := Lib.hid hm
  have HN := Lib.hid hn
  obtain ⟨r, hr⟩ : ∃ r, r = nowK (K.getD m (⟨#[]⟩, 0)).2 n := ⟨_, rfl⟩
  have HR := Lib.hid hr
  rw [← hr]
  clear h hc hok hlo hhi hx hf hm hn hr
  go_enter Tryz.func61, Tryz.ntmps61
  go_wp2_with fail
  refine FC.out.mono ?_
  rintro e w1 ⟨rfl, t1⟩
  have h1 := H.out.turn t1 (by simp) (fun _ _ => by simp)
  have CC := changeI h1 HM.out HN.out
  rw [← HR.out] at CC
  have HCC := Lib.hid CC
  have T1 := Lib.hid t1
  clear h1 CC t1 FC
  go_wp2_with fail
  refine HCC.out.mono ?_
  rintro e w2 ⟨v2, rfl, h2, ho, t2⟩
  have H2 := Lib.hid h2
  have HO := Lib.hid ho
  have T2 := Lib.hid ((T1.out.mono (by simp)).trans t2 (fun i hi => .inl hi))
  clear h2 ho t2 HCC
  go_wp2
  go_ret
  exact ⟨v2, rfl, H2.out, HO.out, T2.out⟩

set_option maxHeartbeats 2000000 in
set_option maxRecDepth 100000 in
/-- Add of what is not there, none of it. -/
theorem addI_none {w : World} {b kc : Nat} {cap : Array Value} {v : Value} {K : List (ByteArray × Int)} {c : ByteArray → ByteArray → Int} {ok : World → Prop} (h : BagI w b (.func (.func kc) #[] cap) v K) (hc : CmpOk kc cap c ok) (hok : ok w) {x : ByteArray} (hx : okS x) {n : Int} (hn0 : n ≤ 0) {m : Nat} (hm : m ≤ K.length)
    (hlo : ∀ i (hi : i < K.length), i < m → 0 < c x K[i].1) (hhi : ∀ i (hi : i < K.length), m ≤ i → c x K[i].1 ≤ 0) (hf : ¬ (m < K.length ∧ c x (K.getD m (⟨#[]⟩, 0)).1 = 0)) :
    Calls Tryz.prog 61 #[.pointer (some ⟨b, 0, none⟩), .string x, .int .i64 n] w fun e w' => e = .returned (.int .i64 0) ∧ Turn [] w w' := by
  have FC := Lib.hid (find_calls h hc hok hx hm hlo hhi)
  rw [found_no hf] at FC
  clear h hc hok hlo hhi hx hf hm
  go_enter Tryz.func61, Tryz.ntmps61
  go_wp2_with fail
  refine FC.out.mono ?_
  rintro e w1 ⟨rfl, t1⟩
  have T1 := Lib.hid t1
  clear t1 FC
  go_wp2
  go_ret
  exact ⟨rfl, T1.out⟩

set_option maxHeartbeats 2000000 in
set_option maxRecDepth 100000 in
/-- Add of what is not there. -/
theorem addI_new {w : World} {b kc : Nat} {cap : Array Value} {v : Value} {K : List (ByteArray × Int)} {c : ByteArray → ByteArray → Int} {ok : World → Prop} (h : BagI w b (.func (.func kc) #[] cap) v K) (hc : CmpOk kc cap c ok) (hok : ok w) {x : ByteArray} (hx : okS x) {n : Int} (hn0 : 0 < n) (hn1 : n ≤ 9223372036854775807) (hfew : K.length ≤ 999) {m : Nat} (hm : m ≤ K.length)
    (hlo : ∀ i (hi : i < K.length), i < m → 0 < c x K[i].1) (hhi : ∀ i (hi : i < K.length), m ≤ i → c x K[i].1 ≤ 0) (hf : ¬ (m < K.length ∧ c x (K.getD m (⟨#[]⟩, 0)).1 = 0)) :
    Calls Tryz.prog 61 #[.pointer (some ⟨b, 0, none⟩), .string x, .int .i64 n] w fun e w' =>
      ∃ v', e = .returned (.int .i64 n) ∧ BagI w' b (.func (.func kc) #[] cap) v' (insK K m (x, n)) ∧ (v'.ownBlock = v.ownBlock ∨ ∀ k, v'.ownBlock = some k → w.heap.size ≤ k) ∧ Turn (b :: v.ownBlock.toList) w w' := by
  have FC := Lib.hid (find_calls h hc hok hx hm hlo hhi)
  rw [found_no hf] at FC
  have H := Lib.hid h
  have HM := Lib.hid hm
  have HX := Lib.hid hx
  have hn2 : ¬ n ≤ 0 := by omega
  obtain ⟨ao0, cp0, hv0, -⟩ := h.kinds
  obtain ⟨L, hL⟩ : ∃ L, L = K.length := ⟨_, rfl⟩
  rw [← hL] at hv0 hfew
  have HL := Lib.hid hL
  subst hv0
  clear h hc hok hlo hhi hx hf hm hL
  go_enter Tryz.func61, Tryz.ntmps61
  go_wp2_with fail
  refine FC.out.mono ?_
  rintro e w1 ⟨rfl, t1⟩
  have h1 := H.out.turn t1 (by simp) (fun _ _ => by simp)
  have c1 := h1.cells.2
  have H1 := Lib.hid h1
  have T1 := Lib.hid t1
  have h2 := h1.turn (Turn.alloc [] w1 (.cells #[.string x, .int .i64 n] 127)) (by simp) (fun _ _ => by simp)
  have hne : (Value.slice ao0 L cp0).ownBlock ≠ some w1.heap.size := fun e => by have := (h1.row.lt _ e).2; omega
  have CI := insert_calls h2.row (by rw [← HL.out]; omega) HM.out (x, n) (heap_alloc_new w1 _) hne
  have HCI := Lib.hid CI
  have H2 := Lib.hid h2
  clear h1 t1 FC h2 hne CI
  go_wp2_with fail
  refine HCI.out.mono ?_
  rintro e w3 ⟨v3, rfl, hr3, ho3, t3⟩
  have hl3 : (insK K m (x, n)).length = L + 1 := by rw [insK_length HM.out, HL.out]
  rw [← HL.out] at hr3
  obtain ⟨ao3, cp3, hv3⟩ := owns_slice hr3
  subst hv3
  have ho3' : (Value.slice ao3 (L + 1) cp3).ownBlock = (Value.slice ao0 L cp0).ownBlock ∨ ∀ k, (Value.slice ao3 (L + 1) cp3).ownBlock = some k → w1.heap.size ≤ k := by
    rcases ho3 with e | e
    · exact .inl e
    · refine .inr (fun k hk => ?_)
      rw [e] at hk
      have := Option.some.inj hk
      simp at this
      omega
  have t13 := (Turn.alloc (Value.slice ao0 L cp0).ownBlock.toList w1 (.cells #[.string x, .int .i64 n] 127)).trans t3 (fun i hi => .inl hi)
  obtain ⟨hd3, h4, t4⟩ := H1.out.put (K2 := insK K m (x, n)) t13 (by rw [hl3]; exact hr3) ho3' (fun p hp => by
    rcases List.mem_append.1 hp with h5 | h5
    · exact H1.out.nums p (List.mem_of_mem_take h5)
    · rcases List.mem_cons.1 h5 with rfl | h6
      · exact ⟨HX.out, by show 1 ≤ n; omega, hn1⟩
      · exact H1.out.nums p (List.mem_of_mem_drop h6)) (by rw [hl3]; omega)
  obtain ⟨d0, d1, d2⟩ := cells_of_head hd3
  have H4 := Lib.hid h4
  have T4 := Lib.hid ((T1.out.mono (by simp)).trans t4 (fun i hi => .inl hi))
  have HO : Hid ((Value.slice ao3 (L + 1) cp3).ownBlock = (Value.slice ao0 L cp0).ownBlock ∨ ∀ k, (Value.slice ao3 (L + 1) cp3).ownBlock = some k → w.heap.size ≤ k) := Lib.hid (ho3'.imp id (fun h5 k hk => Nat.le_trans T1.out.size (h5 k hk)))
  clear hd3 h4 t4 t13 ho3 ho3' hr3 t3 hl3 HCI H2
  go_wp2
  go_ret
  exact ⟨_, rfl, H4.out, HO.out, T4.out⟩

end Go.Proofs.YtjmainefmiefcaaGreat.S


/-
  How texts compare; the laws' orders as function values.
-/
namespace Go.Proofs.YtjmainefmiefcaaGreat
open Go.RowKit

theorem isNaN_string (a : ByteArray) (w : World) : Calls Tryz.prog 82 #[.string a] w fun e w' => e = .returned (.bool false) ∧ w' = w := by
  go_enter Tryz.func82, Tryz.ntmps82
  go_wp2
  go_ret
  exact ⟨by simp, rfl⟩

def cmpS (a b : ByteArray) : Int := if Op.bytesLess a.toList b.toList = true then -1 else if (a.toList == b.toList) = true then 0 else 1

theorem compare_string (a b : ByteArray) (w : World) : Calls Tryz.prog 59 #[.string a, .string b] w fun e w' => e = .returned (.int .i64 (cmpS a b)) ∧ w' = w := by
  have A1 := Lib.hid (isNaN_string a w)
  have A2 := Lib.hid (isNaN_string b w)
  by_cases h1 : Op.bytesLess a.toList b.toList = true
  · have HC : Hid (cmpS a b = -1) := Lib.hid (by unfold cmpS; rw [if_pos h1])
    go_enter Tryz.func59, Tryz.ntmps59
    go_wp2_with (first | (go_at_call 82; first | (with_reducible refine A1.out.mono ?_; rintro e w' ⟨rfl, rfl⟩) | (with_reducible refine A2.out.mono ?_; rintro e w' ⟨rfl, rfl⟩)))
    go_ret
    exact ⟨ret_int HC.out.symm, rfl⟩
  · have h1' : Op.bytesLess a.toList b.toList = false := by simpa using h1
    by_cases h2 : (a.toList == b.toList) = true
    · have HC : Hid (cmpS a b = 0) := Lib.hid (by unfold cmpS; rw [if_neg h1, if_pos h2])
      clear h1
      go_enter Tryz.func59, Tryz.ntmps59
      go_wp2_with (first | (go_at_call 82; first | (with_reducible refine A1.out.mono ?_; rintro e w' ⟨rfl, rfl⟩) | (with_reducible refine A2.out.mono ?_; rintro e w' ⟨rfl, rfl⟩)))
      go_ret
      exact ⟨ret_int HC.out.symm, rfl⟩
    · have HC : Hid (cmpS a b = 1) := Lib.hid (by unfold cmpS; rw [if_neg h1, if_neg h2])
      have h2' : (a.toList == b.toList) = false := by simpa using h2
      clear h1 h2
      go_enter Tryz.func59, Tryz.ntmps59
      go_wp2_with (first | (go_at_call 82; first | (with_reducible refine A1.out.mono ?_; rintro e w' ⟨rfl, rfl⟩) | (with_reducible refine A2.out.mono ?_; rintro e w' ⟨rfl, rfl⟩)))
      go_ret
      exact ⟨ret_int HC.out.symm, rfl⟩

theorem cmpS_small (a b : ByteArray) : inI64 (cmpS a b) := by
  unfold cmpS inI64
  split
  · omega
  · split <;> omega

/-- cmp.Compare of texts, as a function value. -/
theorem cmpS_ok : S.CmpOk 59 #[] cmpS (fun _ => True) :=
  ⟨fun args w => enter_run Tryz.func59 (by kernel_rfl) (by kernel_rfl) args w, fun x y w _ _ _ => by simpa using compare_string x y w, fun _ _ _ _ => trivial, cmpS_small⟩

theorem ordT_small (back : Bool) (a b : Int) : inI64 (ordT back a b) := by
  have h1 := cmpZ_small (a.tmod 10) (b.tmod 10)
  have h2 := cmpZ_small a b
  unfold ordT inI64
  generalize cmpZ (a.tmod 10) (b.tmod 10) = d at *
  generalize cmpZ a b = e at *
  cases back <;> simp <;> split <;> omega

/-- The rest by five, never below nought. -/
def rest5 (x : Int) : Int := (x.tmod 5 + 5).tmod 5

theorem rest5_eq (x : Int) : rest5 x = x % 5 := by
  unfold rest5
  have h0 := Int.tmod_eq_emod (a := x) (b := 5)
  have h1 : 0 ≤ x.tmod 5 + 5 := by
    rw [h0]
    split <;> omega
  rw [Int.tmod_eq_emod_of_nonneg h1, h0]
  split <;> omega

end Go.Proofs.YtjmainefmiefcaaGreat


/-
  A bag of texts and a timer of int64s of the call's own, side by side: what begun does with them.
-/
namespace Go.Proofs.YtjmainefmiefcaaGreat
open Go.RowKit

structure BT (w wr : World) (b t : Nat) (v u : Value) (K : List (ByteArray × Int)) (ticks : Int) (J : List (Int × Int)) : Prop where
  bag : S.BagI wr b (.func (.func 59) #[] #[]) v K
  tim : L.TimI wr t 2 ticks u J
  lb : w.heap.size ≤ b
  lt : w.heap.size ≤ t
  lv : ∀ k, v.ownBlock = some k → w.heap.size ≤ k
  lu : ∀ k, u.ownBlock = some k → w.heap.size ≤ k
  bt : b ≠ t
  vt : v.ownBlock ≠ some t
  ub : u.ownBlock ≠ some b
  uv : ∀ k, v.ownBlock = some k → u.ownBlock ≠ some k
  bel : Below w.heap.size w wr

theorem BT.quiet {w wr w' : World} {b t : Nat} {v u : Value} {K : List (ByteArray × Int)} {ticks : Int} {J : List (Int × Int)} (h : BT w wr b t v u K ticks J) (q : Turn [] wr w') : BT w w' b t v u K ticks J :=
  ⟨h.bag.turn q (by simp) (fun _ _ => by simp), h.tim.turn q (by simp) (fun _ _ => by simp), h.lb, h.lt, h.lv, h.lu, h.bt, h.vt, h.ub, h.uv, h.bel.trans (q.belowAll.mono h.bel.size)⟩

theorem BT.bagStep {w wr w' : World} {b t : Nat} {v u v' : Value} {K K' : List (ByteArray × Int)} {ticks : Int} {J : List (Int × Int)} (h : BT w wr b t v u K ticks J)
    (hb : S.BagI w' b (.func (.func 59) #[] #[]) v' K') (ho : v'.ownBlock = v.ownBlock ∨ ∀ k, v'.ownBlock = some k → wr.heap.size ≤ k) (q : Turn (b :: v.ownBlock.toList) wr w') : BT w w' b t v' u K' ticks J := by
  have htl := lt_of_heap h.tim.head
  refine ⟨hb, h.tim.turn q ?_ (fun k hk => ?_), h.lb, h.lt, fun k hk => ?_, h.lu, h.bt, ?_, h.ub, fun k hk => ?_, h.bel.trans (q.below (fun k hk => ?_) h.bel.size)⟩
  · intro hm
    rcases List.mem_cons.1 hm with e | hm
    · exact h.bt e.symm
    · exact h.vt (Option.mem_toList.1 hm)
  · intro hm
    rcases List.mem_cons.1 hm with e | hm
    · exact h.ub (by rw [hk, e])
    · exact h.uv k (Option.mem_toList.1 hm) hk
  · rcases ho with e | e
    · rw [e] at hk; exact h.lv k hk
    · exact Nat.le_trans h.bel.size (e k hk)
  · intro e1
    rcases ho with e | e
    · rw [e] at e1; exact h.vt e1
    · have := e t e1; omega
  · intro e1
    rcases ho with e | e
    · rw [e] at hk; exact h.uv k hk e1
    · have := e k hk
      have := (h.tim.row.lt _ e1).2
      omega
  · rcases List.mem_cons.1 hk with rfl | hk
    · exact h.lb
    · exact h.lv k (Option.mem_toList.1 hk)

theorem BT.timStep {w wr w' : World} {b t : Nat} {v u u' : Value} {K : List (ByteArray × Int)} {ticks ticks' : Int} {J J' : List (Int × Int)} (h : BT w wr b t v u K ticks J)
    (hb : L.TimI w' t 2 ticks' u' J') (ho : u'.ownBlock = u.ownBlock ∨ ∀ k, u'.ownBlock = some k → wr.heap.size ≤ k) (q : Turn (t :: u.ownBlock.toList) wr w') : BT w w' b t v u' K ticks' J' := by
  have htl := lt_of_heap h.bag.head
  refine ⟨h.bag.turn q ?_ (fun k hk => ?_), hb, h.lb, h.lt, h.lv, fun k hk => ?_, h.bt, h.vt, ?_, fun k hk => ?_, h.bel.trans (q.below (fun k hk => ?_) h.bel.size)⟩
  · intro hm
    rcases List.mem_cons.1 hm with e | hm
    · exact h.bt e
    · exact h.ub (Option.mem_toList.1 hm)
  · intro hm
    rcases List.mem_cons.1 hm with e | hm
    · exact h.vt (by rw [hk, e])
    · exact h.uv k hk (Option.mem_toList.1 hm)
  · rcases ho with e | e
    · rw [e] at hk; exact h.lu k hk
    · exact Nat.le_trans h.bel.size (e k hk)
  · intro e1
    rcases ho with e | e
    · rw [e] at e1; exact h.ub e1
    · have := e b e1; omega
  · intro e1
    rcases ho with e | e
    · rw [e] at e1; exact h.uv k hk e1
    · have := e k e1
      have := (h.bag.row.lt _ hk).2
      omega
  · rcases List.mem_cons.1 hk with rfl | hk
    · exact h.lt
    · exact h.lu k (Option.mem_toList.1 hk)

def nX : ByteArray := ⟨#[120]⟩
def nA : ByteArray := ⟨#[97]⟩

theorem cmp_XX : cmpS nX nX = 0 := by kernel_rfl
theorem cmp_AX : cmpS nA nX = -1 := by kernel_rfl
theorem cmp_XA : cmpS nX nA = 1 := by kernel_rfl

theorem bt_add1 {w wr : World} {b t : Nat} {v u : Value} {ticks : Int} {J : List (Int × Int)} (h : BT w wr b t v u [] ticks J) :
    Calls Tryz.prog 61 #[.pointer (some ⟨b, 0, none⟩), .string nX, .int .i64 2] wr fun e w' => ∃ v', e = .returned (.int .i64 2) ∧ BT w w' b t v' u [(nX, 2)] ticks J := by
  refine (S.addI_new (m := 0) h.bag cmpS_ok trivial trivial (by omega) (by omega) (by simp) (Nat.zero_le _) (by intro i hi; simp at hi) (by intro i hi; simp at hi) (by simp)).mono ?_
  rintro e w' ⟨v', rfl, h2, ho, q⟩
  exact ⟨v', rfl, h.bagStep h2 ho q⟩

theorem bt_add2 {w wr : World} {b t : Nat} {v u : Value} {ticks : Int} {J : List (Int × Int)} (h : BT w wr b t v u [(nX, 2)] ticks J) :
    Calls Tryz.prog 61 #[.pointer (some ⟨b, 0, none⟩), .string nA, .int .i64 1] wr fun e w' => ∃ v', e = .returned (.int .i64 1) ∧ BT w w' b t v' u [(nA, 1), (nX, 2)] ticks J := by
  refine (S.addI_new (m := 0) h.bag cmpS_ok trivial trivial (by omega) (by omega) (by simp) (Nat.zero_le _) (by intro i hi hm; omega) (fun i hi _ => by
    have hi0 : i = 0 := by simpa using hi
    subst hi0
    show cmpS nA nX ≤ 0
    rw [cmp_AX]
    omega) (by
    rintro ⟨-, e⟩
    have e' : cmpS nA nX = 0 := e
    rw [cmp_AX] at e'
    cases e')).mono ?_
  rintro e w' ⟨v', rfl, h2, ho, q⟩
  exact ⟨v', rfl, h.bagStep h2 ho q⟩

theorem bt_add3 {w wr : World} {b t : Nat} {v u : Value} {ticks : Int} {J : List (Int × Int)} (h : BT w wr b t v u [(nA, 1), (nX, 2)] ticks J) :
    Calls Tryz.prog 61 #[.pointer (some ⟨b, 0, none⟩), .string nX, .int .i64 (-5)] wr fun e w' => ∃ v', e = .returned (.int .i64 0) ∧ BT w w' b t v' u [(nA, 1)] ticks J := by
  refine (S.addI_found (m := 1) h.bag cmpS_ok trivial trivial (n := -5) (by unfold S.inI64; omega) (by simp) (fun i hi hm => by
    have hi0 : i = 0 := by omega
    subst hi0
    show 0 < cmpS nX nA
    rw [cmp_XA]
    omega) (fun i hi hm => by
    have hi0 : i = 1 := by simp at hi; omega
    subst hi0
    show cmpS nX nX ≤ 0
    rw [cmp_XX]
    omega) (by show cmpS nX nX = 0; exact cmp_XX)).mono ?_
  rintro e w' ⟨v', rfl, h2, ho, q⟩
  exact ⟨v', rfl, h.bagStep h2 (.inl ho) q⟩

theorem bt_at {w wr : World} {b t : Nat} {v u : Value} {ticks : Int} {J : List (Int × Int)} (h : BT w wr b t v u [(nA, 1), (nX, 2)] ticks J) :
    Calls Tryz.prog 62 #[.pointer (some ⟨b, 0, none⟩), .int .i64 1] wr fun e w' => e = .returned (.tuple #[.string nX, .bool true]) ∧ w' = wr := by
  refine (S.atI h.bag 1 (by omega)).mono ?_
  rintro e w' ⟨rfl, rfl⟩
  exact ⟨rfl, rfl⟩

theorem bt_len {w wr : World} {b t : Nat} {v u : Value} {ticks : Int} {J : List (Int × Int)} (h : BT w wr b t v u [(nA, 1)] ticks J) :
    Calls Tryz.prog 63 #[.pointer (some ⟨b, 0, none⟩)] wr fun e w' => e = .returned (.int .i64 1) ∧ Turn [] wr w' := by
  refine (S.lenI h.bag).mono ?_
  rintro e w' ⟨rfl, q⟩
  exact ⟨rfl, q⟩

theorem bt_kinds {w wr : World} {b t : Nat} {v u : Value} {ticks : Int} {J : List (Int × Int)} (h : BT w wr b t v u [(nA, 1)] ticks J) :
    Calls Tryz.prog 64 #[.pointer (some ⟨b, 0, none⟩)] wr fun e w' => e = .returned (.int .i64 1) ∧ w' = wr := by
  refine (S.kindsI h.bag).mono ?_
  rintro e w' ⟨rfl, rfl⟩
  exact ⟨rfl, rfl⟩

theorem one_lo {x y a : Int} (h : y < x) : ∀ i (hi : i < ([(y, a)] : List (Int × Int)).length), i < 1 → cmpZ ([(y, a)] : List (Int × Int))[i].1 x < 0 := by
  intro i hi _
  have hi0 : i = 0 := by simpa using hi
  subst hi0
  show cmpZ y x < 0
  unfold cmpZ
  rw [if_pos h]
  omega

theorem one_hi {x y a : Int} (h : x ≤ y) : ∀ i (hi : i < ([(y, a)] : List (Int × Int)).length), 0 ≤ i → 0 ≤ cmpZ ([(y, a)] : List (Int × Int))[i].1 x := by
  intro i hi _
  have hi0 : i = 0 := by simpa using hi
  subst hi0
  show 0 ≤ cmpZ y x
  unfold cmpZ
  rw [if_neg (by omega)]
  split <;> omega

theorem cmpZ_self (x : Int) : cmpZ x x = 0 := by
  unfold cmpZ
  rw [if_neg (by omega), if_neg (by omega)]

theorem bt_heard1 {w wr : World} {b t : Nat} {v u : Value} {K : List (ByteArray × Int)} (h : BT w wr b t v u K 0 []) :
    Calls Tryz.prog 42 #[.pointer (some ⟨t, 0, none⟩), .int .i64 7] wr fun e w' => ∃ u', e = .returned (.bool true) ∧ BT w w' b t v u' K 0 [(7, 0)] := by
  refine (L.heard_new (m := 0) h.tim 7 (by simp) (Nat.zero_le _) (by intro i hi; simp at hi) (by intro i hi; simp at hi) (by simp)).mono ?_
  rintro e w' ⟨v', rfl, h2, ho, q⟩
  exact ⟨v', rfl, h.timStep h2 ho q⟩

theorem bt_heard2 {w wr : World} {b t : Nat} {v u : Value} {K : List (ByteArray × Int)} (h : BT w wr b t v u K 0 [(7, 0)]) :
    Calls Tryz.prog 42 #[.pointer (some ⟨t, 0, none⟩), .int .i64 7] wr fun e w' => e = .returned (.bool false) ∧ BT w w' b t v u K 0 [(7, 0)] := by
  refine (L.heard_is (m := 0) h.tim 7 (by simp) (by intro i hi hm; omega) (one_hi (by omega)) (cmpZ_self 7)).mono ?_
  rintro e w' ⟨rfl, h2, q⟩
  exact ⟨rfl, h.timStep h2 (.inl rfl) q⟩

theorem bt_tick {w wr : World} {b t : Nat} {v u : Value} {K : List (ByteArray × Int)} {ticks : Int} {J : List (Int × Int)} (h : BT w wr b t v u K ticks J) (ht : ticks ≤ 999999) :
    Calls Tryz.prog 44 #[.pointer (some ⟨t, 0, none⟩)] wr fun e w' => ∃ sv, e = .returned sv ∧ w'.ownsRow 0 2 1 sv (L.silK 2 (ticks + 1) J).length (L.silK 2 (ticks + 1) J) ∧ BT w w' b t v u K (ticks + 1) J := by
  refine (L.tick_calls h.tim ht).mono ?_
  rintro e w' ⟨sv, rfl, hr, -, h2, q⟩
  exact ⟨sv, rfl, hr, h.timStep h2 (.inl rfl) (q.mono (by intro i hi; exact .inl (by rw [List.mem_singleton.1 hi]; simp)))⟩

theorem bt_age7 {w wr : World} {b t : Nat} {v u : Value} {K : List (ByteArray × Int)} (h : BT w wr b t v u K 2 [(7, 0)]) :
    Calls Tryz.prog 65 #[.pointer (some ⟨t, 0, none⟩), .int .i64 7] wr fun e w' => e = .returned (.int .i64 2) ∧ BT w w' b t v u K 2 [(7, 0)] := by
  refine (L.age_is (m := 0) h.tim 7 (by simp) (by intro i hi hm; omega) (one_hi (by omega)) (cmpZ_self 7)).mono ?_
  rintro e w' ⟨rfl, q⟩
  exact ⟨rfl, h.quiet q⟩

theorem bt_age8 {w wr : World} {b t : Nat} {v u : Value} {K : List (ByteArray × Int)} (h : BT w wr b t v u K 2 [(7, 0)]) :
    Calls Tryz.prog 65 #[.pointer (some ⟨t, 0, none⟩), .int .i64 8] wr fun e w' => e = .returned (.int .i64 (-1)) ∧ BT w w' b t v u K 2 [(7, 0)] := by
  refine (L.age_none (m := 1) h.tim 8 (by simp) (one_lo (by omega)) (by intro i hi hm; simp at hi; omega) (by simp)).mono ?_
  rintro e w' ⟨rfl, q⟩
  exact ⟨rfl, h.quiet q⟩

theorem bt_gone {w wr : World} {b t : Nat} {v u : Value} {K : List (ByteArray × Int)} (h : BT w wr b t v u K 2 [(7, 0)]) :
    Calls Tryz.prog 43 #[.pointer (some ⟨t, 0, none⟩), .int .i64 7] wr fun e w' => ∃ u', e = .returned (.bool true) ∧ BT w w' b t v u' K 2 [] := by
  refine (L.gone_is (m := 0) h.tim 7 (by simp) (by intro i hi hm; omega) (one_hi (by omega)) (cmpZ_self 7)).mono ?_
  rintro e w' ⟨v', rfl, h2, ho, q⟩
  exact ⟨v', rfl, h.timStep h2 (.inl ho) q⟩

theorem bt_has {w wr : World} {b t : Nat} {v u : Value} {K : List (ByteArray × Int)} (h : BT w wr b t v u K 2 []) :
    Calls Tryz.prog 41 #[.pointer (some ⟨t, 0, none⟩), .int .i64 7] wr fun e w' => e = .returned (.bool false) ∧ BT w w' b t v u K 2 [] := by
  refine (L.has_calls (m := 0) h.tim 7 (Nat.zero_le _) (by intro i hi; simp at hi) (by intro i hi; simp at hi)).mono ?_
  rintro e w' ⟨rfl, q⟩
  exact ⟨rfl, h.quiet q⟩

end Go.Proofs.YtjmainefmiefcaaGreat


/-
  begun: a bag and a timer.
-/
namespace Go.Proofs.YtjmainefmiefcaaGreat
open Go.RowKit

set_option maxHeartbeats 4000000 in
set_option maxRecDepth 100000 in
theorem begun6_calls (w : World) : Calls Tryz.prog 51 #[] w fun e w' => e = .returned (.bool true) ∧ Below w.heap.size w w' := by
  go_enter Tryz.func51, Tryz.ntmps51
  go_wp2_with fail
  refine (S.newI _ _ w).mono ?_
  rintro e w1 ⟨rfl, hb1, t1⟩
  have HB1 := Lib.hid hb1
  have T1 := Lib.hid t1
  clear hb1 t1
  go_wp2_with fail
  refine (L.new_calls 2 (by unfold inI64; omega) w1).mono ?_
  rintro e w2 ⟨rfl, hl2, t2⟩
  obtain ⟨b, hb⟩ : ∃ b, b = w.heap.size := ⟨_, rfl⟩
  obtain ⟨t, ht⟩ : ∃ t, t = w1.heap.size := ⟨_, rfl⟩
  have O2 : Hid (BT w w2 b t (.slice none 0 0) (.slice none 0 0) [] 0 []) := Lib.hid (by
    rw [hb, ht]
    have hlt := lt_of_heap HB1.out.head
    exact ⟨HB1.out.turn t2 (by simp) (fun _ _ => by simp), hl2, Nat.le_refl _, T1.out.size, (by intro k hk; cases hk), (by intro k hk; cases hk), by omega, (by intro e; cases e), (by intro e; cases e), (by intro k hk; cases hk),
      T1.out.belowAll.trans (t2.belowAll.mono T1.out.size)⟩)
  rw [← hb, ← ht]
  clear hl2 t2 hb ht HB1 T1
  go_wp2_with fail
  refine (newI_nil _).mono ?_
  rintro e w3 ⟨rfl, rfl⟩
  go_wp2_with fail
  refine (bt_add1 O2.out).mono ?_
  rintro e w3 ⟨v3, rfl, o3⟩
  have O3 := Lib.hid o3
  clear o3 O2
  go_wp2_with fail
  refine (bt_add2 O3.out).mono ?_
  rintro e w4 ⟨v4, rfl, o4⟩
  have O4 := Lib.hid o4
  clear o4 O3
  go_wp2_with fail
  refine (bt_at O4.out).mono ?_
  rintro e w5 ⟨rfl, rfl⟩
  go_wp2_with fail
  refine (bt_add3 O4.out).mono ?_
  rintro e w5 ⟨v5, rfl, o5⟩
  have O5 := Lib.hid o5
  clear o5 O4
  go_wp2_with fail
  refine (bt_heard1 O5.out).mono ?_
  rintro e w6 ⟨u6, rfl, o6⟩
  have O6 := Lib.hid o6
  clear o6 O5
  go_wp2_with fail
  refine (bt_heard2 O6.out).mono ?_
  rintro e w7 ⟨rfl, o7⟩
  have O7 := Lib.hid o7
  clear o7 O6
  go_wp2_with fail
  refine (bt_tick O7.out (by omega)).mono ?_
  rintro e w8 ⟨s8, rfl, r8, o8⟩
  rw [show L.silK 2 (0 + 1) [(7, 0)] = [] by kernel_rfl] at r8
  obtain ⟨ao8, c8, rfl⟩ := owns_slice r8
  have O8 := Lib.hid o8
  clear o8 O7 r8
  go_wp2_with fail
  refine (bt_tick O8.out (by omega)).mono ?_
  rintro e w9 ⟨s9, rfl, r9, o9⟩
  rw [show L.silK 2 (0 + 1 + 1) [(7, 0)] = [.int .i64 7] by kernel_rfl] at r9
  have O9 : Hid (BT w w9 b t v5 u6 [(nA, 1)] 2 [(7, 0)]) := Lib.hid o9
  obtain ⟨g9, c9, rfl, hg9⟩ : ∃ g c, s9 = .slice (some ⟨g, 0, none⟩) 1 c ∧ w9.cell? ⟨g, 0, none⟩ = some (.int .i64 7) := by
    rcases r9.2 with ⟨-, h0⟩ | ⟨g, cap, cur, rfl, -⟩
    · cases h0
    · exact ⟨g, cap, rfl, by have := r9.cells (g := g) rfl 0 (.int .i64 7) rfl; rwa [Addr.add_lit] at this⟩
  clear o9 O8 r9
  have hnx : nX.toList = [120] := by kernel_rfl
  go_wp2_with fail
  refine (bt_len O9.out).mono ?_
  rintro e w10 ⟨rfl, q10⟩
  have O10 := Lib.hid (O9.out.quiet q10)
  have hg10 := q10.cell hg9 (by simp)
  clear q10 hg9 O9
  go_wp2_with fail
  refine (bt_kinds O10.out).mono ?_
  rintro e w11 ⟨rfl, rfl⟩
  go_wp2_with fail
  refine (bt_age7 O10.out).mono ?_
  rintro e w12 ⟨rfl, o12⟩
  have O12 := Lib.hid o12
  clear o12 O10 hg10
  go_wp2_with fail
  refine (bt_age8 O12.out).mono ?_
  rintro e w13 ⟨rfl, o13⟩
  have O13 := Lib.hid o13
  clear o13 O12
  go_wp2_with fail
  refine (bt_gone O13.out).mono ?_
  rintro e w14 ⟨u14, rfl, o14⟩
  have O14 := Lib.hid o14
  clear o14 O13
  go_wp2_with fail
  refine (bt_has O14.out).mono ?_
  rintro e w15 ⟨rfl, o15⟩
  have B15 := Lib.hid o15.bel
  clear o15 O14
  go_wp2
  go_ret
  exact ⟨rfl, B15.out⟩

end Go.Proofs.YtjmainefmiefcaaGreat


/-
  What may be, by the program: queues, bodies, brokers, numbers and their homes.
-/
namespace Go.Proofs.YtjmainefmiefcaaGreat
open Go.RowKit

theorem width_pos (s : ByteArray) (pos : Nat) (h : pos < s.size) : 1 ≤ (Utf8.decode s pos).2 := by
  by_cases ha : (s[pos]'h).toNat < 128
  · rw [decode_ascii s pos h ha]
    exact Nat.le_refl _
  · exact (decode_high s pos h (by omega)).2

set_option maxHeartbeats 1000000 in
set_option maxRecDepth 100000 in
theorem kindQueue_calls (s : ByteArray) (w : World) :
    Calls Tryz.prog 69 #[.string s] w fun e w' => e = .returned (.bool (queueB s)) ∧ Turn [] w w' := by
  by_cases hs1 : s.size < 1
  · have HQ : Hid (queueB s = false) := Lib.hid (by unfold queueB; rw [decide_eq_false (by omega : ¬ 1 ≤ s.size), Bool.false_and, Bool.and_false])
    go_enter Tryz.func69, Tryz.ntmps69
    go_wp2
    all_goals go_ret
    all_goals exact ⟨ret_bool HQ.out.symm, Turn.refl _ _⟩
  by_cases hs8 : 8 < s.size
  · have HQ : Hid (queueB s = false) := Lib.hid (by unfold queueB; rw [decide_eq_false (by omega : ¬ s.size ≤ 8), Bool.and_false, Bool.and_false])
    go_enter Tryz.func69, Tryz.ntmps69
    go_wp2
    all_goals go_ret
    all_goals exact ⟨ret_bool HQ.out.symm, Turn.refl _ _⟩
  have HQ : Hid (queueB s = s.data.toList.all okLet) := Lib.hid (by unfold queueB; rw [decide_eq_true (by omega : 1 ≤ s.size), decide_eq_true (by omega : s.size ≤ 8), Bool.and_self, Bool.and_true])
  go_enter Tryz.func69, Tryz.ntmps69
  go_wp2
  go_loopw [] (fun w' => ∃ k : Nat, k ≤ s.size ∧ w' = w.iter s k ∧ (s.data.toList.take k).all okLet = true) (fun w' => s.size - w'.iterPos w.heap.size)
  case atStart => exact ⟨0, by omega, rfl, rfl⟩
  case round =>
    obtain ⟨k, hk, rfl, hall⟩ := hrel
    have HA := Lib.hid hall
    clear hall
    by_cases hlt : k < s.size
    · have hs' : k < s.data.toList.length := by simpa using hlt
      have hE : s.data.toList[k] = s[k] := by simp [ByteArray.getElem_eq_getElem_data]
      by_cases ha : (s[k]'hlt).toNat < 128
      · have hnx : ∀ ty, (Instr.next (.pointer (some ⟨w.heap.size, 0, none⟩)) true ty).run Tryz.prog (w.iter s k) = _ := fun ty => run_next_ascii w s k ty hlt ha
        obtain ⟨x, hx⟩ : ∃ x : Nat, x = s[k].toNat := ⟨_, rfl⟩
        have hok := okLet_is s.data.toList[k] x (by rw [hE, hx])
        have HN := Lib.hid (fun h => let_next hs' HA.out h)
        have HB := Lib.hid (fun h => let_bad hs' h)
        have HO := Lib.hid hok
        rw [← hx] at hnx ha
        clear hok hE HA
        have HX := Lib.hid hx
        clear hx
        rcases (by omega : x < 97 ∨ (97 ≤ x ∧ x ≤ 122) ∨ 122 < x) with h | h | h
        · have HF := Lib.hid (HB.out (by rw [HO.out]; simp; omega))
          go_wp2
          all_goals go_ret
          all_goals exact ⟨ret_bool (a := false) HF.out.symm, Turn.alloc [] w _⟩
        · have HF := Lib.hid (HN.out (by rw [HO.out]; simp; omega))
          go_wp2
          all_goals
            go_roundw
            case rel => exact ⟨k + 1, by omega, rfl, HF.out⟩
            case measure => simp; omega
        · have HF := Lib.hid (HB.out (by rw [HO.out]; simp; omega))
          go_wp2
          all_goals go_ret
          all_goals exact ⟨ret_bool (a := false) HF.out.symm, Turn.alloc [] w _⟩
      · have hnx : ∀ ty, (Instr.next (.pointer (some ⟨w.heap.size, 0, none⟩)) true ty).run Tryz.prog (w.iter s k) = _ := fun ty => run_next_any w s k ty hlt
        have hd := (decode_high s k hlt (by omega)).1
        have hf : okLet s.data.toList[k] = false := by rw [okLet_is _ _ rfl, hE]; simp; omega
        have HF := Lib.hid (let_bad hs' hf)
        clear hf hE ha
        generalize (Utf8.decode s k).1 = x at *
        generalize (Utf8.decode s k).2 = y at *
        go_wp2
        all_goals go_ret
        all_goals exact ⟨ret_bool (a := false) HF.out.symm, Turn.alloc [] w _⟩
    · have hnx : ∀ ty, (Instr.next (.pointer (some ⟨w.heap.size, 0, none⟩)) true ty).run Tryz.prog (w.iter s k) = _ := fun ty => run_next_end w s k ty hlt
      have hkk : k = s.size := by omega
      have hall : s.data.toList.all okLet = true := by have := HA.out; rwa [hkk, List.take_of_length_le (by simp)] at this
      have HF := Lib.hid (HQ.out.trans hall)
      clear hall HA hkk
      go_wp2
      go_ret
      exact ⟨ret_bool HF.out.symm, Turn.alloc [] w _⟩

theorem kindBody_calls (s : ByteArray) (w : World) : Calls Tryz.prog 70 #[.string s] w fun e w' => e = .returned (.bool (bodyB s)) ∧ w = w' := by
  go_enter Tryz.func70, Tryz.ntmps70
  go_wp2
  go_ret
  exact ⟨ret_bool (by unfold bodyB; rw [Bool.eq_iff_iff]; simp; try omega), rfl⟩

theorem kindBroker_calls (n : Int) (w : World) : Calls Tryz.prog 81 #[.int .i64 n] w fun e w' => e = .returned (.bool (brokerB n)) ∧ w = w' := by
  by_cases h1 : 1 ≤ n
  · by_cases h2 : n ≤ 8
    · have hb : brokerB n = true := decide_eq_true ⟨h1, h2⟩
      rw [hb]
      go_enter Tryz.func81, Tryz.ntmps81
      go_wp2
      go_ret
      exact ⟨ret_bool (by simp), rfl⟩
    · have hb : brokerB n = false := decide_eq_false (fun h => h2 h.2)
      rw [hb]
      go_enter Tryz.func81, Tryz.ntmps81
      go_wp2
      go_ret
      exact ⟨ret_bool (by simp; try omega), rfl⟩
  · have hb : brokerB n = false := decide_eq_false (fun h => h1 h.1)
    rw [hb]
    go_enter Tryz.func81, Tryz.ntmps81
    go_wp2
    go_ret
    exact ⟨ret_bool (by simp; try omega), rfl⟩

set_option maxHeartbeats 1000000 in
theorem kindMake_calls (b n : Int) (w : World) : Calls Tryz.prog 57 #[.int .i64 b, .int .i64 n] w fun e w' => e = .returned (.int .i64 (makeZ b n)) ∧ w = w' := by
  have C := Lib.hid (kindBroker_calls b w)
  by_cases hb : brokerB b = true
  · rw [hb] at C
    have hb2 := of_decide_eq_true hb
    by_cases h1 : n < 1
    · have HM : Hid (makeZ b n = 0) := Lib.hid (by unfold makeZ; rw [if_neg (by omega)])
      clear hb
      go_enter Tryz.func57, Tryz.ntmps57
      go_wp2_with fail
      refine C.out.mono ?_
      rintro e w1 ⟨rfl, rfl⟩
      clear C
      go_wp2
      go_ret
      exact ⟨ret_int HM.out.symm, rfl⟩
    · by_cases h2 : 4294967296 ≤ n
      · have HM : Hid (makeZ b n = 0) := Lib.hid (by unfold makeZ; rw [if_neg (by omega)])
        clear hb
        go_enter Tryz.func57, Tryz.ntmps57
        go_wp2_with fail
        refine C.out.mono ?_
        rintro e w1 ⟨rfl, rfl⟩
        clear C
        go_wp2
        go_ret
        exact ⟨ret_int HM.out.symm, rfl⟩
      · have HM : Hid (makeZ b n = b * 4294967296 + n) := Lib.hid (by unfold makeZ; rw [if_pos ⟨hb, by omega, by omega⟩])
        have hm : IntKind.i64.wrap (b * 4294967296) = b * 4294967296 := by rw [IntKind.wrap_i64]; omega
        have hm2 : IntKind.i64.wrap (b * 4294967296 + n) = b * 4294967296 + n := by rw [IntKind.wrap_i64]; omega
        clear hb
        go_enter Tryz.func57, Tryz.ntmps57
        go_wp2_with fail
        refine C.out.mono ?_
        rintro e w1 ⟨rfl, rfl⟩
        clear C
        go_wp2
        go_ret
        exact ⟨ret_int HM.out.symm, rfl⟩
  · have hbf : brokerB b = false := by simpa using hb
    rw [hbf] at C
    have HM : Hid (makeZ b n = 0) := Lib.hid (by unfold makeZ; rw [if_neg (fun h => hb h.1)])
    clear hb hbf
    go_enter Tryz.func57, Tryz.ntmps57
    go_wp2_with fail
    refine C.out.mono ?_
    rintro e w1 ⟨rfl, rfl⟩
    clear C
    go_wp2
    go_ret
    exact ⟨ret_int HM.out.symm, rfl⟩

theorem home_make (t : Int) : homeZ t = if makeZ (t.tdiv 4294967296) (t.tmod 4294967296) = t then t.tdiv 4294967296 else 0 := by
  by_cases h : 0 ≤ t
  · rw [Int.tdiv_eq_ediv_of_nonneg h, Int.tmod_eq_emod_of_nonneg h]
    unfold homeZ makeZ brokerB
    simp only [decide_eq_true_eq]
    repeat' split
    all_goals omega
  · obtain ⟨s, rfl⟩ : ∃ s, t = -s := ⟨-t, by omega⟩
    have hs : 0 < s := by omega
    have hm : makeZ ((-s).tdiv 4294967296) ((-s).tmod 4294967296) = 0 := by
      rw [Int.neg_tdiv, Int.neg_tmod, Int.tdiv_eq_ediv_of_nonneg (by omega), Int.tmod_eq_emod_of_nonneg (by omega)]
      unfold makeZ
      rw [if_neg (by omega)]
    rw [hm, if_neg (by omega)]
    unfold homeZ
    rw [if_neg (by omega)]

theorem tdiv_wrap (t : Int) (ht : -9223372036854775808 ≤ t ∧ t ≤ 9223372036854775807) : IntKind.i64.wrap (t.tdiv 4294967296) = t.tdiv 4294967296 := by
  have h : -2147483648 ≤ t.tdiv 4294967296 ∧ t.tdiv 4294967296 ≤ 2147483648 := by
    by_cases h : 0 ≤ t
    · rw [Int.tdiv_eq_ediv_of_nonneg h]
      omega
    · obtain ⟨s, rfl⟩ : ∃ s, t = -s := ⟨-t, by omega⟩
      rw [Int.neg_tdiv, Int.tdiv_eq_ediv_of_nonneg (by omega)]
      omega
  rw [IntKind.wrap_i64]
  omega

set_option maxHeartbeats 1000000 in
theorem kindHome_calls (t : Int) (w : World) (ht : -9223372036854775808 ≤ t ∧ t ≤ 9223372036854775807) : Calls Tryz.prog 72 #[.int .i64 t] w fun e w' => e = .returned (.int .i64 (homeZ t)) ∧ w = w' := by
  have H := home_make t
  have hw := tdiv_wrap t ht
  clear ht
  have C := Lib.hid (kindMake_calls (t.tdiv 4294967296) (t.tmod 4294967296) w)
  obtain ⟨m, hm⟩ : ∃ m, m = makeZ (t.tdiv 4294967296) (t.tmod 4294967296) := ⟨_, rfl⟩
  rw [← hm] at C H
  obtain ⟨z, hz⟩ : ∃ z, z = homeZ t := ⟨_, rfl⟩
  rw [← hz] at H ⊢
  clear hm hz
  by_cases hmt : m = t
  · rw [if_pos hmt] at H
    rw [hmt] at C
    obtain ⟨d, hd⟩ : ∃ d, d = t.tdiv 4294967296 := ⟨_, rfl⟩
    have HZ : Hid (d = z) := Lib.hid (hd.trans H.symm)
    have HD := Lib.hid hd
    clear H hmt hd
    go_enter Tryz.func72, Tryz.ntmps72
    go_wp2_with fail
    refine C.out.mono ?_
    rintro e w1 ⟨rfl, rfl⟩
    go_wp2
    go_ret
    exact ⟨ret_int (HD.out.symm.trans HZ.out), rfl⟩
  · rw [if_neg hmt] at H
    have HZ := Lib.hid H
    have f1 : (m != t) = true := by simpa using hmt
    clear H hmt
    go_enter Tryz.func72, Tryz.ntmps72
    go_wp2_with fail
    refine C.out.mono ?_
    rintro e w1 ⟨rfl, rfl⟩
    go_wp2
    go_ret
    exact ⟨ret_int HZ.out.symm, rfl⟩

theorem tid_bool (t : Int) : decide (0 < homeZ t) = (homeZ t != 0) := by
  have := homeZ_range t
  rw [Bool.eq_iff_iff]
  simp
  omega

theorem kindTid_calls (t : Int) (w : World) (ht : -9223372036854775808 ≤ t ∧ t ≤ 9223372036854775807) : Calls Tryz.prog 71 #[.int .i64 t] w fun e w' => e = .returned (.bool (decide (0 < homeZ t))) ∧ w = w' := by
  have C := Lib.hid (kindHome_calls t w ht)
  rw [tid_bool]
  obtain ⟨h, hh⟩ : ∃ h, h = homeZ t := ⟨_, rfl⟩
  rw [← hh] at C ⊢
  clear hh
  go_enter Tryz.func71, Tryz.ntmps71
  go_wp2_with fail
  refine C.out.mono ?_
  rintro e w1 ⟨rfl, rfl⟩
  clear C
  go_wp2
  go_ret
  exact ⟨rfl, rfl⟩

set_option maxRecDepth 100000 in
theorem kindPut_calls (q b : ByteArray) (w : World) : Calls Tryz.prog 122 #[.agg #[.string q, .string b]] w fun e w' => e = .returned (.bool (putB (q, b))) ∧ Turn [] w w' := by
  have C := Lib.hid (fun w => kindQueue_calls q w)
  have C2 := Lib.hid (fun w => kindBody_calls b w)
  have HP : Hid (putB (q, b) = (queueB q && bodyB b)) := Lib.hid rfl
  obtain ⟨x, hx⟩ : ∃ x, x = queueB q := ⟨_, rfl⟩
  obtain ⟨y, hy⟩ : ∃ y, y = bodyB b := ⟨_, rfl⟩
  rw [← hx] at C HP
  rw [← hy] at C2 HP
  rw [HP.out]
  clear hx hy HP
  have T0 := Lib.hid (Turn.alloc [] w (.cells #[.string q, .string b] 28))
  have H1 : (w.alloc (.cells #[.string q, .string b] 28)).cell? ⟨w.heap.size, 1, none⟩ = some (.string b) := by
    rw [cell_of_row _ _ _ _ _ _ (heap_alloc_new w _)]; rfl
  have HH := Lib.hid H1
  clear H1
  cases x with
  | true =>
    go_enter Tryz.func122, Tryz.ntmps122
    go_wp2_with fail
    refine (C.out _).mono ?_
    rintro e w1 ⟨rfl, t1⟩
    have T1 := Lib.hid (T0.out.trans t1 (by simp))
    have h1 := t1.cell HH.out (by simp)
    clear t1
    go_wp2_with fail
    refine (C2.out _).mono ?_
    rintro e w1 ⟨rfl, rfl⟩
    go_wp2
    go_ret
    exact ⟨ret_bool (by simp), T1.out⟩
  | false =>
    go_enter Tryz.func122, Tryz.ntmps122
    go_wp2_with fail
    refine (C.out _).mono ?_
    rintro e w1 ⟨rfl, t1⟩
    have T1 := Lib.hid (T0.out.trans t1 (by simp))
    clear t1
    go_wp2
    go_ret
    exact ⟨ret_bool (by simp), T1.out⟩

end Go.Proofs.YtjmainefmiefcaaGreat


/-
  What records of a kind have, by the program: the row of each kind, and whether an id, parts, puts fit it.
-/
namespace Go.Proofs.YtjmainefmiefcaaGreat
open Go.RowKit

structure OwnV where
  id : Bool
  yes : Bool
  least : Int
  most : Int
  puts : Int

def OwnV.cells (o : OwnV) : Array Value := #[.bool o.id, .bool o.yes, .int .i64 o.least, .int .i64 o.most, .int .i64 o.puts]

/-- What records of that kind have. -/
def ownV (k : Int) : OwnV :=
  if k = 2 then ⟨true, false, 0, 0, 0⟩ else if k = 4 ∨ k = 7 then ⟨false, false, 0, 0, 10⟩ else if k = 5 then ⟨false, true, 0, 0, 0⟩
  else if k = 6 then ⟨false, false, 1, 7, 0⟩ else if k = 8 then ⟨false, false, 0, 7, 0⟩ else if k = 9 then ⟨false, false, 1, 1, 0⟩ else ⟨false, false, 0, 0, 0⟩

theorem ownsize : (Tryz.prog.info? 143).map (·.size) = some 5 := by kernel_rfl

theorem results_row_tmp {P : Program} {fn : Func} {p u : Tmp} {ty : TypeId} (h : fn.results = #[.cell p ty, .tmp u]) (tmps : Array Value) (w : World) (g : Nat) (t : TypeId) (cs : Array Value) (fr : Nat × Nat) (d : TypeDesc)
    (hp : tmps.getD p undef = .pointer (some ⟨g, 0, none⟩)) (hg : w.heap[g]? = some (.cells cs t fr))
    (hu : P.underlying ty = some d) (hd : (match d with | .struct _ | .array _ _ => true | _ => false) = true) (hi : (P.info? ty).map (·.size) = some cs.size) :
    (results fn tmps).run P w = .ok (.tuple #[.agg cs, tmps.getD u undef]) w := by
  rw [results_cell_tmp h, hp]
  simp [asAddr, Result.andThen, run_loadVar_row w g t ty cs fr d hg hu hd hi]

set_option maxHeartbeats 2000000 in
set_option maxRecDepth 100000 in
theorem ownOf_calls (k : Int) (w : World) : Calls Tryz.prog 97 #[.int .i64 k] w fun e w' => e = .returned (.tuple #[.agg (ownV k).cells, .bool (decide (1 ≤ k ∧ k ≤ 9))]) ∧ Turn [] w w' := by
  have hk : k = 1 ∨ k = 2 ∨ k = 3 ∨ k = 4 ∨ k = 5 ∨ k = 6 ∨ k = 7 ∨ k = 8 ∨ k = 9 ∨ (k < 1 ∨ 9 < k) := by omega
  rcases hk with rfl | rfl | rfl | rfl | rfl | rfl | rfl | rfl | rfl | hk
  rotate_left 9
  · have HO : Hid (ownV k = ⟨false, false, 0, 0, 0⟩) := Lib.hid (by unfold ownV; repeat rw [if_neg (by omega)])
    have HD : Hid (decide (1 ≤ k ∧ k ≤ 9) = false) := Lib.hid (decide_eq_false (by omega))
    rw [HO.out, HD.out]
    have f1 : (k == 1) = false := by simp; omega
    have f2 : (k == 2) = false := by simp; omega
    have f3 : (k == 3) = false := by simp; omega
    have f4 : (k == 4) = false := by simp; omega
    have f5 : (k == 5) = false := by simp; omega
    have f6 : (k == 6) = false := by simp; omega
    have f7 : (k == 7) = false := by simp; omega
    have f8 : (k == 8) = false := by simp; omega
    have f9 : (k == 9) = false := by simp; omega
    clear hk HO HD
    go_enter Tryz.func97, Tryz.ntmps97
    go_wp2
    refine bodyPost_ret_by (results_row_tmp rfl _ _ w.heap.size 143 _ (0, 0) _ rfl (heap_alloc_new w _) Tryz.underlying143 rfl ownsize) rfl ?_
    exact ⟨rfl, Turn.alloc [] w _⟩
  all_goals
    go_enter Tryz.func97, Tryz.ntmps97
    go_wp2
    refine bodyPost_ret_by (results_row_tmp rfl _ _ w.heap.size 143 _ (0, 0) _ rfl (heap_alloc_new w _) Tryz.underlying143 rfl ownsize) rfl ?_
    exact ⟨rfl, Turn.alloc [] w _⟩

/-- May a record's id be that one. -/
def idB (o : OwnV) (d : Int) : Bool := if o.id then tidB d else decide (d = 0)

set_option maxRecDepth 100000 in
theorem ownId_calls (o : OwnV) (d : Int) (w : World) (hd : -9223372036854775808 ≤ d ∧ d ≤ 9223372036854775807) : Calls Tryz.prog 98 #[.agg o.cells, .int .i64 d] w fun e w' => e = .returned (.bool (idB o d)) ∧ Turn [] w w' := by
  obtain ⟨oi, oy, ol, om, op⟩ := o
  have C := Lib.hid (fun w => kindTid_calls d w hd)
  unfold OwnV.cells idB tidB
  dsimp only
  cases oi with
  | true =>
    rw [if_pos rfl]
    go_enter Tryz.func98, Tryz.ntmps98
    go_wp2_with fail
    refine (C.out _).mono ?_
    rintro e w1 ⟨rfl, rfl⟩
    go_wp2
    go_ret
    exact ⟨rfl, Turn.alloc [] w _⟩
  | false =>
    rw [if_neg (by simp)]
    go_enter Tryz.func98, Tryz.ntmps98
    go_wp2
    go_ret
    exact ⟨ret_bool (by rw [Bool.eq_iff_iff]; simp), Turn.alloc [] w _⟩

/-- May a record's parts be those. -/
def partsB (o : OwnV) (l : List Int) : Bool := decide (o.least ≤ (l.length : Int) ∧ (l.length : Int) ≤ o.most) && decide (∀ i, i < l.length → brokerB (l.getD i 0) = true ∧ (0 < i → l.getD (i - 1) 0 < l.getD i 0))

theorem part_bad {l : List Int} {n k : Nat} {z : Int} (hk : k < n) (hz : z = if k = 0 then 0 else l.getD (k - 1) 0) (h : ¬ (z < l.getD k 0 ∧ brokerB (l.getD k 0) = true)) :
    decide (∀ i, i < n → brokerB (l.getD i 0) = true ∧ (0 < i → l.getD (i - 1) 0 < l.getD i 0)) = false := by
  refine decide_eq_false (fun h1 => h ?_)
  obtain ⟨h2, h3⟩ := h1 k hk
  refine ⟨?_, h2⟩
  by_cases e : k = 0
  · rw [hz, if_pos e]
    have := of_decide_eq_true h2
    omega
  · rw [hz, if_neg e]
    exact h3 (by omega)

theorem part_next {l : List Int} {k : Nat} {z : Int} (hz : z = if k = 0 then 0 else l.getD (k - 1) 0) (hall : ∀ i, i < k → brokerB (l.getD i 0) = true ∧ (0 < i → l.getD (i - 1) 0 < l.getD i 0)) (h : z < l.getD k 0 ∧ brokerB (l.getD k 0) = true) :
    ∀ i, i < k + 1 → brokerB (l.getD i 0) = true ∧ (0 < i → l.getD (i - 1) 0 < l.getD i 0) := by
  intro i hi
  by_cases e : i = k
  · subst e
    refine ⟨h.2, fun h0 => ?_⟩
    rw [hz, if_neg (by omega)] at h
    exact h.1
  · exact hall i (by omega)

set_option maxHeartbeats 2000000 in
set_option maxRecDepth 100000 in
theorem ownParts_calls (o : OwnV) {w : World} {ao : Option Addr} {c : Nat} {l : List Int} (h : Il w ao c l) : Calls Tryz.prog 99 #[.agg o.cells, .slice ao l.length c] w fun e w' => e = .returned (.bool (partsB o l)) ∧ Turn [] w w' := by
  have hlen := h.len
  have H := Lib.hid h
  obtain ⟨oi, oy, ol, om, op⟩ := o
  unfold OwnV.cells partsB
  dsimp only
  obtain ⟨n, hn⟩ : ∃ n, n = l.length := ⟨_, rfl⟩
  have HN := Lib.hid hn
  rw [← hn] at hlen ⊢
  clear h hn
  by_cases h1 : (n : Int) < ol
  · have HB : Hid (decide (ol ≤ (n : Int) ∧ (n : Int) ≤ om) = false) := Lib.hid (decide_eq_false (by omega))
    rw [HB.out, Bool.false_and]
    go_enter Tryz.func99, Tryz.ntmps99
    go_wp2
    go_ret
    exact ⟨ret_bool rfl, Turn.alloc [] w _⟩
  by_cases h2 : om < (n : Int)
  · have HB : Hid (decide (ol ≤ (n : Int) ∧ (n : Int) ≤ om) = false) := Lib.hid (decide_eq_false (by omega))
    rw [HB.out, Bool.false_and]
    go_enter Tryz.func99, Tryz.ntmps99
    go_wp2
    go_ret
    exact ⟨ret_bool rfl, Turn.alloc [] w _⟩
  have HB : Hid (decide (ol ≤ (n : Int) ∧ (n : Int) ≤ om) = true) := Lib.hid (decide_eq_true (by omega))
  rw [HB.out, Bool.true_and]
  obtain ⟨ans, ha⟩ : ∃ ans, ans = decide (∀ i, i < n → brokerB (l.getD i 0) = true ∧ (0 < i → l.getD (i - 1) 0 < l.getD i 0)) := ⟨_, rfl⟩
  have HA := Lib.hid ha
  rw [← ha]
  clear ha HB
  go_enter Tryz.func99, Tryz.ntmps99
  go_wp2_with fail
  go_loop [5, 22] (fun v vi => ∃ (k : Nat) (z : Int), k ≤ n ∧ vi = .int .i64 (k : Int) ∧ v = .int .i64 z ∧ (z = if k = 0 then 0 else l.getD (k - 1) 0) ∧ (∀ i, i < k → brokerB (l.getD i 0) = true ∧ (0 < i → l.getD (i - 1) 0 < l.getD i 0))) (fun _ vi => n - (intOf vi).toNat)
  case atStart => exact ⟨0, 0, by omega, rfl, rfl, rfl, fun i hi => by omega⟩
  case round =>
    obtain ⟨k, z, hk, rfl, rfl, hz, hall⟩ := hrel
    have HL := Lib.hid hall
    have HZ := Lib.hid hz
    clear hall hz
    by_cases hkn : k < n
    · have hkl : k < l.length := by rw [← HN.out]; exact hkn
      obtain ⟨b, off, rfl, -, hat⟩ := (H.out.turn (Turn.alloc [] w (.cells #[.bool oi, .bool oy, .int .i64 ol, .int .i64 om, .int .i64 op] 143))).at (by intro e; rw [e] at hkl; simp at hkl)
      have h0 := hat k hkl
      have C := Lib.hid (fun w => kindBroker_calls (l.getD k 0) w)
      have hb : 0 ≤ (k : Int) ∧ (k : Int) < (n : Int) := by omega
      have HB := Lib.hid (fun h => HA.out.trans (part_bad hkn HZ.out h))
      have HX := Lib.hid (fun h => part_next HZ.out HL.out h)
      have HY : Hid (l.getD k 0 = if k + 1 = 0 then 0 else l.getD (k + 1 - 1) 0) := Lib.hid (by rw [if_neg (by omega), Nat.add_sub_cancel])
      obtain ⟨y, hy⟩ : ∃ y, y = l.getD k 0 := ⟨_, rfl⟩
      rw [← hy] at h0 C HB HX HY
      clear hat hy
      by_cases hyz : y ≤ z
      · have HF := Lib.hid (HB.out (fun h => by omega))
        clear HB HX C
        go_wp2
        go_ret
        exact ⟨ret_bool HF.out.symm, Turn.alloc [] w _⟩
      · cases hr : brokerB y with
        | true =>
          have HN2 := Lib.hid (HX.out ⟨by omega, hr⟩)
          rw [hr] at C
          clear HB HX hr
          go_wp2_with fail
          refine (C.out _).mono ?_
          rintro e w1 ⟨rfl, rfl⟩
          go_wp2
          go_round
          case rel => exact ⟨k + 1, y, by omega, by go_num, rfl, HY.out, HN2.out⟩
          case measure => simp [intOf]; omega
        | false =>
          have HF := Lib.hid (HB.out (fun h => by rw [hr] at h; simp at h))
          rw [hr] at C
          clear HB HX hr
          go_wp2_with fail
          refine (C.out _).mono ?_
          rintro e w1 ⟨rfl, rfl⟩
          go_wp2
          go_ret
          exact ⟨ret_bool HF.out.symm, Turn.alloc [] w _⟩
    · have hkk : k = n := by omega
      have HF : Hid (ans = true) := Lib.hid (by rw [HA.out]; exact decide_eq_true (fun i hi => HL.out i (by omega)))
      clear hkk HL HZ
      go_wp2
      go_ret
      exact ⟨ret_bool HF.out.symm, Turn.alloc [] w _⟩

/-- May a record's puts be those. -/
def oputsB (o : OwnV) (l : List (ByteArray × ByteArray)) : Bool := decide ((l.length : Int) ≤ o.puts) && l.all putB

theorem oputs_bad {l : List (ByteArray × ByteArray)} {k : Nat} (hk : k < l.length) (h2 : putB (l.getD k putNone) = false) : l.all putB = false := by
  have e : l.getD k putNone = l[k] := by simp [List.getD, hk]
  rw [e] at h2
  rw [List.all_eq_false]
  exact ⟨l[k], List.getElem_mem hk, by rw [h2]; simp⟩

set_option maxHeartbeats 2000000 in
set_option maxRecDepth 100000 in
theorem ownPuts_calls (o : OwnV) {w : World} {ao : Option Addr} {c : Nat} {l : List (ByteArray × ByteArray)} (h : Ps w ao c l) : Calls Tryz.prog 100 #[.agg o.cells, .slice ao l.length c] w fun e w' => e = .returned (.bool (oputsB o l)) ∧ Turn [] w w' := by
  have hlen := h.len
  have H := Lib.hid h
  obtain ⟨oi, oy, ol, om, op⟩ := o
  unfold OwnV.cells oputsB
  dsimp only
  obtain ⟨n, hn⟩ : ∃ n, n = l.length := ⟨_, rfl⟩
  have HN := Lib.hid hn
  rw [← hn] at hlen ⊢
  clear h hn
  by_cases h1 : op < (n : Int)
  · have HB : Hid (decide ((n : Int) ≤ op) = false) := Lib.hid (decide_eq_false (by omega))
    rw [HB.out, Bool.false_and]
    go_enter Tryz.func100, Tryz.ntmps100
    go_wp2
    go_ret
    exact ⟨ret_bool rfl, Turn.alloc [] w _⟩
  have HB : Hid (decide ((n : Int) ≤ op) = true) := Lib.hid (decide_eq_true (by omega))
  rw [HB.out, Bool.true_and]
  obtain ⟨w1, hw1⟩ : ∃ w1, w1 = w.alloc (.cells #[.bool oi, .bool oy, .int .i64 ol, .int .i64 om, .int .i64 op] 143) := ⟨_, rfl⟩
  have T1 : Hid (Turn [] w w1) := Lib.hid (by rw [hw1]; exact Turn.alloc [] w _)
  go_enter Tryz.func100, Tryz.ntmps100
  go_wp2_with fail
  rw [← hw1]
  clear hw1
  go_loopw [14] (fun vi wx => ∃ k : Nat, k ≤ n ∧ vi = .int .i64 (k : Int) ∧ (l.take k).all putB = true ∧ Turn [] w wx) (fun vi _ => n - (intOf vi).toNat)
  case atStart => exact ⟨0, by omega, rfl, rfl, T1.out⟩
  case round =>
    obtain ⟨k, hk, rfl, hall, ht⟩ := hrel
    have HA := Lib.hid hall
    have T := Lib.hid ht
    clear hall ht
    by_cases hkn : k < n
    · have hkl : k < l.length := by rw [← HN.out]; exact hkn
      obtain ⟨b, off, rfl, -, hat⟩ := (H.out.turn T.out).at (by intro e; rw [e] at hkl; simp at hkl)
      obtain ⟨h0, h1, hs0, -⟩ := hat k hkl
      have C := Lib.hid (fun w => kindPut_calls (l.getD k putNone).1 (l.getD k putNone).2 w)
      have HB := Lib.hid (fun h => oputs_bad hkl h)
      have HX := Lib.hid (fun h => puts_next hkl HA.out h)
      obtain ⟨q, hq⟩ : ∃ q, q = (l.getD k putNone).1 := ⟨_, rfl⟩
      obtain ⟨y, hy⟩ : ∃ y, y = (l.getD k putNone).2 := ⟨_, rfl⟩
      have hqy : l.getD k putNone = (q, y) := by rw [hq, hy]
      rw [← hq] at h0 C
      rw [← hy] at h1 C
      rw [hqy] at HB HX
      have hb : 0 ≤ (k : Int) ∧ (k : Int) < (n : Int) := by omega
      clear hat hq hy hqy hs0
      obtain ⟨r, hr⟩ : ∃ r, r = putB (q, y) := ⟨_, rfl⟩
      rw [← hr] at C HB HX
      clear hr
      cases r with
      | true =>
        go_wp2_with fail
        refine (C.out _).mono ?_
        rintro e w2 ⟨rfl, t2⟩
        have T2 := Lib.hid ((T.out.trans (Turn.alloc [] wr (.cells #[.string q, .string y] 28)) (by simp)).trans t2 (by simp))
        have HX2 := Lib.hid (HX.out trivial)
        clear t2 C HB HX
        go_wp2
        go_roundw
        case rel => exact ⟨k + 1, by omega, by go_num, HX2.out, T2.out⟩
        case measure => simp [intOf]; omega
      | false =>
        go_wp2_with fail
        refine (C.out _).mono ?_
        rintro e w2 ⟨rfl, t2⟩
        have T2 := Lib.hid ((T.out.trans (Turn.alloc [] wr (.cells #[.string q, .string y] 28)) (by simp)).trans t2 (by simp))
        have HB2 := Lib.hid (HB.out trivial)
        clear t2 C HB HX
        go_wp2
        go_ret
        exact ⟨ret_bool HB2.out.symm, T2.out⟩
    · have hkk : k = n := by omega
      have hall : l.all putB = true := by have := HA.out; rwa [hkk, HN.out, List.take_length] at this
      have HO := Lib.hid hall
      clear hall HA hkk
      go_wp2
      go_ret
      exact ⟨ret_bool HO.out.symm, T.out⟩

end Go.Proofs.YtjmainefmiefcaaGreat


/-
  What may be, by the program: records, packets.
-/
namespace Go.Proofs.YtjmainefmiefcaaGreat
open Go.RowKit

theorem parts_none (o : OwnV) (h1 : o.least = 0) (h2 : o.most = 0) (l : List Int) : partsB o l = decide (l.length = 0) := by
  unfold partsB
  rw [h1, h2]
  by_cases h : l.length = 0
  · have : l = [] := List.length_eq_zero_iff.1 h
    subst this
    simp
  · rw [decide_eq_false (by omega), Bool.false_and, decide_eq_false h]

theorem parts_some (o : OwnV) (h2 : o.most = 7) (l : List Int) : partsB o l = (decide (o.least ≤ (l.length : Int)) && risingB l) := by
  unfold partsB risingB
  rw [h2]
  by_cases h : l.length ≤ 7
  · rw [decide_eq_true h, Bool.and_true]
    congr 1
    rw [Bool.eq_iff_iff]
    simp
    omega
  · rw [decide_eq_false (by omega), decide_eq_false h, Bool.false_and, Bool.and_false, Bool.and_false]

theorem parts_one (o : OwnV) (h2 : o.most = 1) (h1 : o.least = 1) (l : List Int) : partsB o l = (decide (l.length = 1) && brokerB (l.getD 0 0)) := by
  unfold partsB
  rw [h1, h2]
  by_cases h : l.length = 1
  · rw [decide_eq_true (by omega), Bool.true_and, decide_eq_true h, Bool.true_and, h, Bool.eq_iff_iff, decide_eq_true_eq]
    exact ⟨fun h => (h 0 (by omega)).1, fun h i hi => by
      have : i = 0 := by omega
      subst this
      exact ⟨h, fun h => by omega⟩⟩
  · rw [decide_eq_false (by omega), Bool.false_and, decide_eq_false h, Bool.false_and]

theorem oputs_none (o : OwnV) (h : o.puts = 0) (l : List (ByteArray × ByteArray)) : oputsB o l = decide (l.length = 0) := by
  unfold oputsB
  rw [h]
  by_cases h : l.length = 0
  · have : l = [] := List.length_eq_zero_iff.1 h
    subst this
    simp
  · rw [decide_eq_false (by omega), Bool.false_and, decide_eq_false h]

theorem oputs_some (o : OwnV) (h : o.puts = 10) (l : List (ByteArray × ByteArray)) : oputsB o l = putsB l := by
  unfold oputsB putsB
  rw [h, Bool.and_comm]
  congr 1
  rw [Bool.eq_iff_iff]
  simp
  omega

theorem least_one (l : List Int) : decide ((1 : Int) ≤ (l.length : Int)) = decide (0 < l.length) := by
  rw [Bool.eq_iff_iff]; simp; omega

theorem least_none (l : List Int) : decide ((0 : Int) ≤ (l.length : Int)) = true := decide_eq_true (by omega)

theorem recB_own (k t d : Int) (y : Bool) (P : List Int) (Q : List (ByteArray × ByteArray)) : recB ⟨k, t, d, y, P, Q⟩ = (decide (1 ≤ k ∧ k ≤ 9) && (tidB t && (idB (ownV k) d && (((ownV k).yes || !y) && (partsB (ownV k) P && oputsB (ownV k) Q))))) := by
  have hk : k = 1 ∨ k = 2 ∨ k = 3 ∨ k = 4 ∨ k = 5 ∨ k = 6 ∨ k = 7 ∨ k = 8 ∨ k = 9 ∨ (k < 1 ∨ 9 < k) := by omega
  unfold recB
  dsimp only
  generalize hz : decide (d = 0) = z
  generalize hzp : decide (P.length = 0) = zp
  generalize hzq : decide (Q.length = 0) = zq
  generalize tidB t = bt
  rcases hk with rfl | rfl | rfl | rfl | rfl | rfl | rfl | rfl | rfl | hk
  · rw [parts_none _ rfl rfl, oputs_none _ rfl, hzp, hzq]
    simp [idB, ownV, hz]
    cases bt <;> cases z <;> cases y <;> cases zp <;> cases zq <;> rfl
  · rw [parts_none _ rfl rfl, oputs_none _ rfl, hzp, hzq]
    simp [idB, ownV]
    generalize tidB d = bd
    cases bt <;> cases bd <;> cases y <;> cases zp <;> cases zq <;> rfl
  · rw [parts_none _ rfl rfl, oputs_none _ rfl, hzp, hzq]
    simp [idB, ownV, hz]
    cases bt <;> cases z <;> cases y <;> cases zp <;> cases zq <;> rfl
  · rw [parts_none _ rfl rfl, oputs_some _ rfl, hzp]
    simp [idB, ownV, hz]
  · rw [parts_none _ rfl rfl, oputs_none _ rfl, hzp, hzq]
    simp [idB, ownV, hz]
    cases bt <;> cases z <;> cases y <;> cases zp <;> cases zq <;> rfl
  · rw [parts_some _ rfl, oputs_none _ rfl, hzq, show (ownV 6).least = 1 from rfl, least_one]
    simp [idB, ownV, hz]
    generalize decide (0 < P.length) = l1
    generalize risingB P = rp
    cases bt <;> cases z <;> cases y <;> cases l1 <;> cases rp <;> cases zq <;> rfl
  · rw [parts_none _ rfl rfl, oputs_some _ rfl, hzp]
    simp [idB, ownV, hz]
  · rw [parts_some _ rfl, oputs_none _ rfl, hzq, show (ownV 8).least = 0 from rfl, least_none]
    simp [idB, ownV, hz]
    generalize risingB P = rp
    cases bt <;> cases z <;> cases y <;> cases rp <;> cases zq <;> rfl
  · rw [parts_one _ rfl rfl, oputs_none _ rfl, hzq]
    simp only [idB, ownV, hz]
    generalize decide (P.length = 1) = l1
    generalize brokerB (P.getD 0 0) = rp
    cases bt <;> cases z <;> cases y <;> cases l1 <;> cases rp <;> cases zq <;> rfl
  · rw [decide_eq_false (by omega : ¬ (1 ≤ k ∧ k ≤ 9)), Bool.false_and]
    simp only [if_neg (by omega : ¬ (k = 1 ∨ k = 3 ∨ k = 5)), if_neg (by omega : ¬ k = 2), if_neg (by omega : ¬ (k = 4 ∨ k = 7)), if_neg (by omega : ¬ k = 6), if_neg (by omega : ¬ k = 8), if_neg (by omega : ¬ k = 9), Bool.and_false]

set_option maxHeartbeats 4000000 in
set_option maxRecDepth 100000 in
theorem kindRecord_calls (r : RecV) {w : World} {ap aq : Option Addr} {cp cq : Nat} (hp : Il w ap cp r.parts) (hq : Ps w aq cq r.puts) (ht : -9223372036854775808 ≤ r.tid ∧ r.tid ≤ 9223372036854775807) (hd : -9223372036854775808 ≤ r.id ∧ r.id ≤ 9223372036854775807) :
    Calls Tryz.prog 73 #[.agg (r.cells ap cp aq cq)] w fun e w' => e = .returned (.bool (recB r)) ∧ Turn [] w w' := by
  obtain ⟨k, t, d, y, P, Q⟩ := r
  have hp : Il w ap cp P := hp
  have hq : Ps w aq cq Q := hq
  have hpl := hp.len
  have hql := hq.len
  have HR := Lib.hid (recB_own k t d y P Q)
  rw [HR.out]
  have CO := Lib.hid (fun w => ownOf_calls k w)
  obtain ⟨o, ho⟩ : ∃ o, o = ownV k := ⟨_, rfl⟩
  rw [← ho] at CO ⊢
  have CT := Lib.hid (fun w => kindTid_calls t w ht)
  have CI := Lib.hid (fun w => ownId_calls o d w hd)
  have CP := Lib.hid (fun wx (tx : Turn [] w wx) => ownParts_calls o (hp.turn tx))
  have CQ := Lib.hid (fun wx (tx : Turn [] w wx) => ownPuts_calls o (hq.turn tx))
  unfold tidB
  obtain ⟨r0, h0⟩ : ∃ r, r = decide (1 ≤ k ∧ k ≤ 9) := ⟨_, rfl⟩
  obtain ⟨r1, h1⟩ : ∃ r, r = decide (0 < homeZ t) := ⟨_, rfl⟩
  obtain ⟨r2, h2⟩ : ∃ r, r = idB o d := ⟨_, rfl⟩
  obtain ⟨r4, h4⟩ : ∃ r, r = partsB o P := ⟨_, rfl⟩
  obtain ⟨r5, h5⟩ : ∃ r, r = oputsB o Q := ⟨_, rfl⟩
  rw [← h0] at CO
  rw [← h1] at CT
  rw [← h2] at CI
  rw [← h4] at CP
  rw [← h5] at CQ
  rw [← h0, ← h1, ← h2, ← h4, ← h5]
  unfold RecV.cells
  dsimp only
  obtain ⟨np, hnp⟩ : ∃ n, n = P.length := ⟨_, rfl⟩
  obtain ⟨nq, hnq⟩ : ∃ n, n = Q.length := ⟨_, rfl⟩
  rw [← hnp] at hpl CP ⊢
  rw [← hnq] at hql CQ ⊢
  clear h0 h1 h2 h4 h5 ho hnp hnq hp hq HR
  obtain ⟨oi, oy, ol, om, op⟩ := o
  unfold OwnV.cells at CO CI CP CQ
  dsimp only at CO CI CP CQ ⊢
  obtain ⟨q, hqd⟩ : ∃ q, q = w.heap.size := ⟨_, rfl⟩
  obtain ⟨w1, hw1⟩ : ∃ w1, w1 = w.alloc (.cells #[.int .i64 k, .int .i64 t, .int .i64 d, .bool y, .slice ap np cp, .slice aq nq cq] 100) := ⟨_, rfl⟩
  have t1 : Turn [] w w1 := by rw [hw1]; exact Turn.alloc [] w _
  have b1 : w1.heap[q]? = some (.cells #[.int .i64 k, .int .i64 t, .int .i64 d, .bool y, .slice ap np cp, .slice aq nq cq] 100) := by rw [hw1, hqd]; exact heap_alloc_new w _
  have T1 := Lib.hid t1
  have B1 := Lib.hid b1
  go_enter Tryz.func73, Tryz.ntmps73
  go_wp2_with fail
  rw [← hw1]
  clear hw1 t1 b1
  refine (CO.out _).mono ?_
  rintro e w2 ⟨rfl, t2⟩
  have T2 := Lib.hid (T1.out.trans t2 (by simp))
  have b2 := t2.heap B1.out (by simp)
  have B2 := Lib.hid b2
  clear t2 b2
  have T3 : Hid (∀ o : Obj, Turn [] w (w2.alloc o)) := Lib.hid (fun o => T2.out.trans (Turn.alloc [] w2 o) (by simp))
  cases r0 with
  | false =>
    go_wp2
    go_ret
    exact ⟨ret_bool (by simp), T3.out _⟩
  | true =>
  have B3 : Hid (∀ o : Obj, (w2.alloc o).heap[q]? = _) := Lib.hid (fun o => (Turn.alloc [] w2 o).heap B2.out (by simp))
  have e1 : ∀ o : Obj, (w2.alloc o).cell? ⟨q, 1, none⟩ = some (.int .i64 t) := fun o => by rw [cell_of_row _ _ _ _ _ _ (B3.out o)]; rfl
  have e2 : ∀ o : Obj, (w2.alloc o).cell? ⟨q, 2, none⟩ = some (.int .i64 d) := fun o => by rw [cell_of_row _ _ _ _ _ _ (B3.out o)]; rfl
  rw [hqd] at e1 e2
  go_wp2_with fail
  refine (CT.out _).mono ?_
  rintro e w3 ⟨rfl, rfl⟩
  cases r1 with
  | false =>
    go_wp2
    go_ret
    exact ⟨ret_bool (by simp), T3.out _⟩
  | true =>
  go_wp2_with fail
  refine (CI.out _).mono ?_
  rintro e w4 ⟨rfl, t4⟩
  have T4 := Lib.hid ((T3.out _).trans t4 (by simp))
  have b4 := t4.heap (B3.out _) (by simp)
  have B4 := Lib.hid b4
  have d4 := t4.heap (heap_alloc_new w2 (.cells #[.bool oi, .bool oy, .int .i64 ol, .int .i64 om, .int .i64 op] 143)) (by simp)
  have D4 := Lib.hid d4
  clear t4 b4 d4 e1 e2
  cases r2 with
  | false =>
    go_wp2
    go_ret
    exact ⟨ret_bool (by simp), T4.out⟩
  | true =>
  have e3 : w4.cell? ⟨q, 3, none⟩ = some (.bool y) := by rw [cell_of_row _ _ _ _ _ _ B4.out]; rfl
  have e4 : w4.cell? ⟨q, 4, none⟩ = some (.slice ap np cp) := by rw [cell_of_row _ _ _ _ _ _ B4.out]; rfl
  have g0 : w4.cell? ⟨w2.heap.size, 0, none⟩ = some (.bool oi) := by rw [cell_of_row _ _ _ _ _ _ D4.out]; rfl
  have g1 : w4.cell? ⟨w2.heap.size, 1, none⟩ = some (.bool oy) := by rw [cell_of_row _ _ _ _ _ _ D4.out]; rfl
  have g2 : w4.cell? ⟨w2.heap.size, 2, none⟩ = some (.int .i64 ol) := by rw [cell_of_row _ _ _ _ _ _ D4.out]; rfl
  have g3 : w4.cell? ⟨w2.heap.size, 3, none⟩ = some (.int .i64 om) := by rw [cell_of_row _ _ _ _ _ _ D4.out]; rfl
  have g4 : w4.cell? ⟨w2.heap.size, 4, none⟩ = some (.int .i64 op) := by rw [cell_of_row _ _ _ _ _ _ D4.out]; rfl
  rw [hqd] at e3 e4
  have HB4 : Hid (∀ wx, Turn [] w4 wx → wx.cell? ⟨q, 5, none⟩ = some (.slice aq nq cq)) := Lib.hid (fun wx tx => by rw [cell_of_row _ _ _ _ _ _ (tx.heap B4.out (by simp))]; rfl)
  rw [hqd] at HB4
  have HD1 : Hid (∀ wx, Turn [] w4 wx → wx.cell? ⟨w2.heap.size, 1, none⟩ = some (.bool oy)) := Lib.hid (fun wx tx => by rw [cell_of_row _ _ _ _ _ _ (tx.heap D4.out (by simp))]; rfl)
  cases oy <;> cases y
  case false.true =>
    go_wp2
    go_ret
    exact ⟨ret_bool (by simp), T4.out⟩
  all_goals
    go_wp2_with fail
    refine (CP.out _ T4.out).mono ?_
    rintro e w5 ⟨rfl, t5⟩
    have T5 := Lib.hid (T4.out.trans t5 (by simp))
    have e5 := HB4.out w5 t5
    have d5 := t5.heap D4.out (by simp)
    have k0 : w5.cell? ⟨w2.heap.size, 0, none⟩ = some (.bool oi) := by rw [cell_of_row _ _ _ _ _ _ d5]; rfl
    have k1 := HD1.out w5 t5
    have k2 : w5.cell? ⟨w2.heap.size, 2, none⟩ = some (.int .i64 ol) := by rw [cell_of_row _ _ _ _ _ _ d5]; rfl
    have k3 : w5.cell? ⟨w2.heap.size, 3, none⟩ = some (.int .i64 om) := by rw [cell_of_row _ _ _ _ _ _ d5]; rfl
    have k4 : w5.cell? ⟨w2.heap.size, 4, none⟩ = some (.int .i64 op) := by rw [cell_of_row _ _ _ _ _ _ d5]; rfl
    clear t5 d5 e3 e4 g0 g1 g2 g3 g4
    cases r4 with
    | false =>
      go_wp2
      go_ret
      exact ⟨ret_bool (by simp), T5.out⟩
    | true =>
    go_wp2_with fail
    refine (CQ.out _ T5.out).mono ?_
    rintro e w6 ⟨rfl, t6⟩
    have T6 := Lib.hid (T5.out.trans t6 (by simp))
    clear t6 e5 k0 k1 k2 k3 k4
    go_wp2
    go_ret
    exact ⟨ret_bool (by simp), T6.out⟩

set_option maxHeartbeats 4000000 in
set_option maxRecDepth 100000 in
theorem kindPacket_calls (p : PacV) (w : World) (ht : -9223372036854775808 ≤ p.tid ∧ p.tid ≤ 9223372036854775807) : Calls Tryz.prog 74 #[.agg p.cells] w fun e w' => e = .returned (.bool (pacB p)) ∧ Turn [] w w' := by
  obtain ⟨kd, a, b, t, n, y⟩ := p
  have C1 := Lib.hid (fun w => kindBroker_calls a w)
  have C2 := Lib.hid (fun w => kindBroker_calls b w)
  have C3 := Lib.hid (fun w => kindTid_calls t w ht)
  have HP : Hid (pacB ⟨kd, a, b, t, n, y⟩ = (decide (1 ≤ kd ∧ kd ≤ 5) && (brokerB a && (brokerB b && (decide (0 < homeZ t) && ((!y || decide (kd = 2 ∨ kd = 3)) && (if kd = 1 then decide (1 ≤ n ∧ n ≤ 10) else decide (n = 0)))))))) := Lib.hid rfl
  obtain ⟨r1, h1⟩ : ∃ r, r = brokerB a := ⟨_, rfl⟩
  obtain ⟨r2, h2⟩ : ∃ r, r = brokerB b := ⟨_, rfl⟩
  obtain ⟨r3, h3⟩ : ∃ r, r = decide (0 < homeZ t) := ⟨_, rfl⟩
  rw [← h1] at C1 HP
  rw [← h2] at C2 HP
  rw [← h3] at C3 HP
  obtain ⟨ans, ha⟩ : ∃ ans, ans = pacB ⟨kd, a, b, t, n, y⟩ := ⟨_, rfl⟩
  rw [← ha] at HP ⊢
  clear h1 h2 h3 ha
  unfold PacV.cells
  cases r1 with
  | false =>
    have HA : Hid (ans = false) := Lib.hid (by rw [HP.out]; simp)
    clear HP
    go_enter Tryz.func74, Tryz.ntmps74
    go_wp2_with fail
    refine (C1.out _).mono ?_
    rintro e w1 ⟨rfl, rfl⟩
    go_wp2
    go_ret
    exact ⟨ret_bool HA.out.symm, Turn.alloc [] w _⟩
  | true =>
  cases r2 with
  | false =>
    have HA : Hid (ans = false) := Lib.hid (by rw [HP.out]; simp)
    clear HP
    go_enter Tryz.func74, Tryz.ntmps74
    go_wp2_with fail
    refine (C1.out _).mono ?_
    rintro e w1 ⟨rfl, rfl⟩
    go_wp2_with fail
    refine (C2.out _).mono ?_
    rintro e w1 ⟨rfl, rfl⟩
    go_wp2
    go_ret
    exact ⟨ret_bool HA.out.symm, Turn.alloc [] w _⟩
  | true =>
  cases r3 with
  | false =>
    have HA : Hid (ans = false) := Lib.hid (by rw [HP.out]; simp)
    clear HP
    go_enter Tryz.func74, Tryz.ntmps74
    go_wp2_with fail
    refine (C1.out _).mono ?_
    rintro e w1 ⟨rfl, rfl⟩
    go_wp2_with fail
    refine (C2.out _).mono ?_
    rintro e w1 ⟨rfl, rfl⟩
    go_wp2_with fail
    refine (C3.out _).mono ?_
    rintro e w1 ⟨rfl, rfl⟩
    go_wp2
    go_ret
    exact ⟨ret_bool HA.out.symm, Turn.alloc [] w _⟩
  | true =>
  have hkd : kd = 1 ∨ kd = 2 ∨ kd = 3 ∨ kd = 4 ∨ kd = 5 ∨ (kd < 1 ∨ 5 < kd) := by omega
  rcases hkd with rfl | rfl | rfl | rfl | rfl | hk
  rotate_left 5
  · have HA : Hid (ans = false) := Lib.hid (by rw [HP.out, decide_eq_false (by omega)]; rfl)
    have f1 : (kd == 1) = false := by simp; omega
    have f2 : (kd == 2) = false := by simp; omega
    have f3 : (kd == 3) = false := by simp; omega
    have f4 : (kd == 4) = false := by simp; omega
    have f5 : (kd == 5) = false := by simp; omega
    clear HP hk
    go_enter Tryz.func74, Tryz.ntmps74
    go_wp2_with fail
    refine (C1.out _).mono ?_
    rintro e w1 ⟨rfl, rfl⟩
    go_wp2_with fail
    refine (C2.out _).mono ?_
    rintro e w1 ⟨rfl, rfl⟩
    go_wp2_with fail
    refine (C3.out _).mono ?_
    rintro e w1 ⟨rfl, rfl⟩
    go_wp2
    go_ret
    exact ⟨ret_bool HA.out.symm, Turn.alloc [] w _⟩
  all_goals cases y
  all_goals simp at HP
  all_goals
    go_enter Tryz.func74, Tryz.ntmps74
    go_wp2_with fail
    refine (C1.out _).mono ?_
    rintro e w1 ⟨rfl, rfl⟩
    go_wp2_with fail
    refine (C2.out _).mono ?_
    rintro e w1 ⟨rfl, rfl⟩
    go_wp2_with fail
    refine (C3.out _).mono ?_
    rintro e w1 ⟨rfl, rfl⟩
    go_wp2
  all_goals
    go_ret
  all_goals
    refine ⟨ret_bool ?_, Turn.alloc [] w _⟩
  all_goals rw [HP.out]
  all_goals first
    | rfl
    | (rw [Bool.eq_iff_iff]; simp; omega)
    | (rw [Bool.eq_iff_iff]; simp)

end Go.Proofs.YtjmainefmiefcaaGreat
