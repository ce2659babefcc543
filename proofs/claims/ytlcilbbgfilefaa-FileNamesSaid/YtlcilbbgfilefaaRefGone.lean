/-
  The walk of the reference's gone, and of its Delete.
-/
import Derived.Test.YtlcilbbgfilefaaRefSync
import Derived.Deep.RegionLaw
namespace Go.Proofs.Ytlcilbbgfilefaa
open Go.RowKit

theorem Try.rfrow : (Try.prog.info? 63).map (fun i => (i.zero, i.size, i.bytes)) = some (some (.agg #[.string ⟨#[]⟩, .slice none 0 0, .int .i64 0, .bool false]), 4, 56) := by kernel_rfl

theorem rf_slice {w : World} {e : TypeId} {size : Nat} {v : Value} {n : Nat} {xs : List Value} (h : w.ownsRow 0 e size v n xs) : ∃ ao cap, v = .slice ao n cap := by
  rcases h.2 with ⟨rfl, h0⟩ | ⟨g, cap, cur, rfl, _⟩
  · exact ⟨none, 0, by rw [h0]⟩
  · exact ⟨_, cap, rfl⟩

theorem rfCells_one (R : List Rf) : ∀ u ∈ rowCells R, u.oneCell' = true := by
  intro u hu
  obtain ⟨x, _, hx⟩ := List.mem_flatMap.1 hu
  simp [rfCells] at hx
  rcases hx with rfl | rfl | rfl | rfl <;> rfl

/-- 'append(x, y...)' on files within a region that draws its order. -/
theorem step_append_rf {ops : Array Oper} {o : Oper} {a : Act} {w : World} {K : Act → World → Prop} {Q : Exit → Act → World → Prop} {E : Prop} (hgd : o.guard = none) (s x : Operand)
    (ho : o.op = .call { callee := .builtin .append, args := #[s, x], argTypes := #[59, 59] })
    (v : Value) (R : List Rf) (hs : a.eval s = v) (hown : w.ownsRow 0 63 4 v R.length (rowCells R))
    (ad : Addr) (c : Nat) (R2 : List Rf) (hx : a.eval x = .slice (some ad) R2.length c) (hsl : ∀ j u, (rowCells R2)[j]? = some u → w.cell? (ad.add j) = some u) (hb : R.length + R2.length ≤ 1000000)
    (h : ∀ v' w', w'.ownsRow 0 63 4 v' (R ++ R2).length (rowCells (R ++ R2)) → w.grownBy w' v.ownBlock → (v'.ownBlock = v.ownBlock ∨ v'.ownBlock = some w.heap.size) → K (a.put o.dst v') w') :
    if Region.wanted o (yielded ops a.tmps) = true then Oper.wp Try.prog o a w K Q else E := by
  have hw : Region.wanted o (yielded ops a.tmps) = true := by simp [Region.wanted, hgd]
  rw [if_pos hw]
  obtain ⟨i0, hi, hz0, hz1, hz2⟩ := info_parts Try.rfrow
  obtain ⟨v', w', hr, h2, h3, h4, h5⟩ := run_append_own_at (P := Try.prog) w 0 59 o.type 63 i0 _ 4 56 Try.underlying59 hi hz0 hz1 hz2 rfl (by decide) v R.length (rowCells R) hown ad R2.length c (rowCells R2) (rowCells_length R2) hsl (rfCells_one R2) (by unfold maxLen; omega) (by omega) (Nat.zero_le _)
  unfold Oper.wp execOp
  simp only [ho, resolve, invoke, builtin, Sem.run_bind, Sem.run_pure, Result.andThen_ok, List.map_toArray, List.map_cons, List.map_nil, hs, hx, hr]
  exact h v' w' (by rw [List.length_append, show rowCells (R ++ R2) = rowCells R ++ rowCells R2 by simp [rowCells]]; exact h2) h3 h5

theorem gone_end {b room : Nat} {v v1 : Value} {A B : List Rf} {x : Rf} {w w1 w2 : World} {ao2 : Option Addr} {cp2 : Nat} (h : RefIs w b room v (A ++ x :: B)) (t1 : Turn [] w w1) (t2 : Turn [] w w2) (hf1 : v1.ownBlock = (Value.slice none 0 0).ownBlock ∨ v1.ownBlock = some w.heap.size)
    (ho : w2.ownsRow 0 63 4 (.slice ao2 (A ++ B).length cp2) (A ++ B).length (rowCells (A ++ B))) (hf2 : (Value.slice ao2 (A ++ B).length cp2).ownBlock = v1.ownBlock ∨ (Value.slice ao2 (A ++ B).length cp2).ownBlock = some w1.heap.size) :
    ∃ v', RefIs (w2.setCell ⟨b, 1, none⟩ (.slice ao2 (A ++ B).length cp2)) b room v' (A ++ B) ∧ Turn [b] w (w2.setCell ⟨b, 1, none⟩ (.slice ao2 (A ++ B).length cp2)) ∧ (∀ k, v'.ownBlock = some k → w.heap.size ≤ k) := by
  have hf3 : ∀ i, v1.ownBlock = some i → w.heap.size ≤ i := by
    intro i hi
    rcases hf1 with e | e <;> rw [hi] at e
    · cases e
    · cases e
      exact Nat.le_refl _
  have hbl : b < w.heap.size := lt_of_heap h.head
  have hnew : ∀ i, (Value.slice ao2 (A ++ B).length cp2).ownBlock = some i → w.heap.size ≤ i := by
    intro i hi
    rcases hf2 with e | e
    · exact hf3 i (by rw [← e]; exact hi)
    · rw [hi] at e
      cases e
      exact t1.size
  have t : Turn [b] w (w2.setCell ⟨b, 1, none⟩ (.slice ao2 (A ++ B).length cp2)) := (t2.mono (l' := [b]) (by simp)).trans (Turn.setCell (l := [b]) w2 (by simp) _) (by simp)
  have hlt := h.lt
  have hmem : ∀ y ∈ A ++ B, y ∈ A ++ x :: B := by
    intro y hy
    simp at hy ⊢
    grind
  refine ⟨_, ⟨?_, ownsRow_turn ho (Turn.setCell (l := [b]) _ (by simp) _) (fun i hi => ?_), ?_, ?_, ?_, ?_, ?_⟩, t, hnew⟩
  · rw [block_set (t2.heap h.head (by simp))]
    rfl
  · have := hnew i hi
    simp
    omega
  · intro y hy
    refine (h.sl y (hmem y hy)).turn t (fun A' hA' hne hm => ?_)
    simp at hm
    exact (h.far y (hmem y hy) A' hA' hne).1 hm
  · intro e
    have := hnew b e
    omega
  · intro y hy A' hA' hne
    refine ⟨(h.far y (hmem y hy) A' hA' hne).1, fun e => ?_⟩
    have h1 := hnew _ e
    have hs := h.sl y (hmem y hy)
    rw [hA'] at hs
    have := hs.lt hne
    omega
  · intro y hy
    exact h.sure y (hmem y hy)
  · have := h.total
    simp [tot] at this ⊢
    omega

set_option maxHeartbeats 2000000 in
set_option maxRecDepth 100000 in
theorem gone_raw {b room : Nat} {v : Value} {A B : List Rf} {x : Rf} (w : World) (h : RefIs w b room v (A ++ x :: B)) (hfew : (A ++ x :: B).length ≤ 400000) :
    Calls Try.prog 44 #[.pointer (some ⟨b, 0, none⟩), .int .i64 (A.length : Nat)] w fun e w' => e = .returned (.tuple #[]) ∧ ∃ v', RefIs w' b room v' (A ++ B) ∧ Turn [b] w w' ∧ (∀ k, v'.ownBlock = some k → w.heap.size ≤ k) := by
  obtain ⟨ao, cap, hv, hao⟩ := h.form
  obtain ⟨g, rfl⟩ := hao (by simp)
  subst hv
  obtain ⟨-, c1, -, f1⟩ := two_cells h.head
  have hcp : (A ++ x :: B).length ≤ cap ∧ cap ≤ 9223372036854775807 := by
    rcases h.row.2 with ⟨h0, _⟩ | ⟨g', cap', cur, hv, _, _, h1, h2, _⟩
    · cases h0
    · cases hv
      exact ⟨h1, by unfold maxLen at h2; omega⟩
  obtain ⟨N, hN⟩ : ∃ N, N = (A ++ x :: B).length := ⟨_, rfl⟩
  obtain ⟨k, hk⟩ : ∃ k, k = A.length := ⟨_, rfl⟩
  have hkN : k + 1 + B.length = N := by rw [hN, hk]; simp; omega
  rw [← hN] at c1 hcp hfew
  rw [← hk]
  have H := Lib.hid h
  have HN := Lib.hid hN
  have HK := Lib.hid hk
  have hb1 : (k : Int) ≤ (cap : Int) := by omega
  have hb2 : (k : Int) + 1 ≤ (N : Int) := by omega
  have hb3 : (N : Int) ≤ (cap : Int) := by omega
  have HKN := Lib.hid hkN
  have HLA : Hid (([] : List Rf).length + A.length ≤ 1000000) := Lib.hid (by simp; omega)
  have hsa : ∀ j u, (rowCells A)[j]? = some u → w.cell? ((⟨g, 0, none⟩ : Addr).add j) = some u := by
    intro j u hu
    refine h.row.cells rfl j u ?_
    rw [rowCells_split, List.getElem?_append_left (by have := (List.getElem?_eq_some_iff.1 hu).1; exact this)]
    exact hu
  have HSA := Lib.hid hsa
  have HSB : Hid (∀ w1, Turn [] w w1 → ∀ j u, (rowCells B)[j]? = some u → w1.cell? ((⟨g, (k + 1) * 4, none⟩ : Addr).add j) = some u) := by
    refine Lib.hid fun w1 t j u hu => t.cell ?_ (by simp)
    have e : ((⟨g, (k + 1) * 4, none⟩ : Addr).add j) = (⟨g, 0, none⟩ : Addr).add ((k + 1) * 4 + j) := by simp [Addr.add]
    rw [e]
    refine h.row.cells rfl _ u ?_
    rw [rowCells_split, List.getElem?_append_right (by rw [rowCells_length]; omega), List.getElem?_append_right (by rw [rowCells_length]; simp [rfCells]; omega), rowCells_length, ← hu]
    congr 1
    simp [rfCells]
    omega
  have s1 : IntKind.i64.wrap ((k : Int) + 1) = (k : Int) + 1 := IntWalk.i64_in _ (by omega)
  have s2 : 0 ≤ (k : Int) + 1 := by omega
  have s3 : ((k : Int) + 1).toNat = k + 1 := by omega
  have HKB : Hid (N - (k + 1) = B.length) := Lib.hid (by omega)
  have HLB : Hid (A.length + B.length ≤ 1000000) := Lib.hid (by omega)
  obtain ⟨A2, hA2⟩ : ∃ A2, (if cap = k + 1 then some (⟨g, 0, none⟩ : Addr) else some ⟨g, (k + 1) * 4, none⟩) = some A2 := by
    by_cases e : cap = k + 1
    · exact ⟨_, if_pos e⟩
    · exact ⟨_, if_neg e⟩
  have HS2 : Hid (∀ w1 : World, (∀ j u, (rowCells B)[j]? = some u → w1.cell? ((⟨g, (k + 1) * 4, none⟩ : Addr).add j) = some u) → ∀ j u, (rowCells B)[j]? = some u → w1.cell? (A2.add j) = some u) := by
    refine Lib.hid fun w1 hh j u hu => ?_
    have hjl := (List.getElem?_eq_some_iff.1 hu).1
    rw [rowCells_length] at hjl
    rw [if_neg (by omega)] at hA2
    cases hA2
    exact hh j u hu
  have HA2 := Lib.hid hA2
  have HF3 : Hid (∀ v1 : Value, (v1.ownBlock = (Value.slice none 0 0).ownBlock ∨ v1.ownBlock = some w.heap.size) → ∀ i, v1.ownBlock = some i → w.heap.size ≤ i) := by
    refine Lib.hid fun v1 hv i hi => ?_
    rcases hv with e | e <;> rw [hi] at e
    · cases e
    · cases e
      exact Nat.le_refl _
  clear h hN hk hkN hA2
  go_enter Try.func44, Try.ntmps44
  go_wp2_with fail
  go_region_law (first
    | (refine step_append_rf rfl (.const (.slice none 0 0)) (.tmp 10) rfl (.slice none 0 0) [] rfl (World.ownsRow_nil _ _ _ _) ⟨g, 0, none⟩ cap A (by rw [← HK.out]; rfl) HSA.out HLA.out ?_; intro v1 w1 ho1 hg1 hf1; have T1 : Turn [] w w1 := (Turn.drew [] w).trans (Turn.grown (l := []) hg1 (by intro k hk; cases hk)) (by simp); have k1 := T1.cell c1 (by simp); have HT1 := Lib.hid T1; have HO1 := Lib.hid ho1; have HF1 := Lib.hid hf1; have HSB1 := Lib.hid (HSB.out w1 T1); clear ho1 hg1 hf1 T1)
    | (refine step_append_rf rfl (.tmp 11) (.tmp 18) rfl v1 A rfl HO1.out A2 (cap - (k + 1)) B (by rw [← HKB.out, ← HA2.out]; rfl) (HS2.out _ HSB1.out) HLB.out ?_; intro v2 w2 ho2 hg2 hf2; have T2 : Turn [] w w2 := HT1.out.trans (Turn.grown (l := v1.ownBlock.toList) hg2 (by intro j hj; simp [hj])) (fun i hi => .inr (HF3.out v1 HF1.out i (by simpa using hi))); have hd2 := T2.heap H.out.head (by simp); obtain ⟨-, m2, -, z2⟩ := two_cells hd2; have HT2 := Lib.hid T2; have HO2 := Lib.hid ho2; have HF2 := Lib.hid hf2; obtain ⟨ao2, cp2, hv2⟩ := rf_slice ho2; clear ho2 hg2 hf2 T2 hd2; subst hv2))
  all_goals go_wp2
  all_goals (go_end0; rw [← (@List.length_append Rf A B)]; exact ⟨rfl, gone_end H.out HT1.out HT2.out HF1.out HO2.out HF2.out⟩)

end Go.Proofs.Ytlcilbbgfilefaa
