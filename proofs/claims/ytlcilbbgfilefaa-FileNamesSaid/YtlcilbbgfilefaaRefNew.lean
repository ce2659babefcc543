/-
  The walk of the reference's Append of a file that is not there yet.
-/
import Derived.Test.YtlcilbbgfilefaaRefApp
namespace Go.Proofs.Ytlcilbbgfilefaa
open Go.RowKit

def newRf (n : List UInt8) : Rf := ⟨⟨n, [], 0, false⟩, none, 0⟩

/-- 'append(x, y...)' on files. -/
theorem append_rf_at {w : World} {ops : Array Oper} {rest : List Oper} {o : Oper} {a : Act} {Q : Exit → Act → World → Prop} (hgd : o.guard = none) (s x : Operand)
    (ho : o.op = .call { callee := .builtin .append, args := #[s, x], argTypes := #[59, 59] })
    (v : Value) (R : List Rf) (hs : a.eval s = v) (hown : w.ownsRow 0 63 4 v R.length (rowCells R))
    (ad : Addr) (c : Nat) (R2 : List Rf) (hx : a.eval x = .slice (some ad) R2.length c) (hsl : ∀ j u, (rowCells R2)[j]? = some u → w.cell? (ad.add j) = some u) (hb : R.length + R2.length ≤ 1000000)
    (h : ∀ v' w', w'.ownsRow 0 63 4 v' (R ++ R2).length (rowCells (R ++ R2)) → w.grownBy w' v.ownBlock → (v'.ownBlock = v.ownBlock ∨ v'.ownBlock = some w.heap.size) → wpList Try.prog ops Q rest (a.put o.dst v') w') : wpList Try.prog ops Q (o :: rest) a w := by
  obtain ⟨i0, hi, hz0, hz1, hz2⟩ := info_parts Try.rfrow
  refine wpList_append_own_at w hgd s x 59 ho 0 63 i0 _ 4 56 Try.underlying59 hi hz0 hz1 hz2 rfl (by decide) v R.length (rowCells R) hs hown ad R2.length c (rowCells R2) hx (rowCells_length R2)
    hsl (rfCells_one R2) (by unfold maxLen; omega) (by omega) (Nat.zero_le _) ?_
  intro v' w' hown' hg hn hloc
  exact h v' w' (by rw [List.length_append, show rowCells (R ++ R2) = rowCells R ++ rowCells R2 by simp [rowCells]]; exact hown') hg hloc

theorem RefIs.push {w w2 : World} {b room : Nat} {v v2 : Value} {R : List Rf} {n : List UInt8} (hd : RefIs w b room v R) (t : Turn v.ownBlock.toList w w2)
    (ho : w2.ownsRow 0 63 4 v2 (R ++ [newRf n]).length (rowCells (R ++ [newRf n]))) (hf : ∀ k, v2.ownBlock = some k → v.ownBlock = some k ∨ w.heap.size ≤ k) :
    RefIs (w2.setCell ⟨b, 1, none⟩ v2) b room v2 (R ++ [newRf n]) ∧ Turn (rblk b v R) w (w2.setCell ⟨b, 1, none⟩ v2) ∧ ∀ i ∈ rblk b v2 (R ++ [newRf n]), i ∈ rblk b v R ∨ w.heap.size ≤ i := by
  have hbl : b < w.heap.size := lt_of_heap hd.head
  have ts : Turn [b] w2 (w2.setCell ⟨b, 1, none⟩ v2) := Turn.setCell _ (by simp) _
  have hvb : ∀ k, v2.ownBlock = some k → k ≠ b := by
    intro k hk e
    subst e
    rcases hf _ hk with h1 | h1
    · exact hd.apart h1
    · omega
  have hmem : ∀ y ∈ R ++ [newRf n], y ∈ R ∨ y = newRf n := by
    intro y hy
    simpa using hy
  have hdd : b ∉ v.ownBlock.toList := by
    intro hm
    exact hd.apart (by simpa using hm)
  refine ⟨⟨?_, ownsRow_turn ho ts (fun k hk => by simpa using hvb k hk), ?_, fun e => hvb b e rfl, ?_, ?_, ?_⟩, ?_, ?_⟩
  · rw [block_set (t.heap hd.head hdd)]
    rfl
  · intro y hy
    rcases hmem y hy with h1 | rfl
    · refine ((hd.sl y h1).turn t (fun A' hA' hne hm => ?_)).turn ts (fun A' hA' hne hm => ?_)
      · exact (hd.far y h1 A' hA' hne).2 (by simpa using hm)
      · exact (hd.far y h1 A' hA' hne).1 (by simpa using hm)
    · exact .inl ⟨rfl, rfl, rfl⟩
  · intro y hy
    rcases hmem y hy with h1 | rfl
    · intro A' hA' hne
      refine ⟨(hd.far y h1 A' hA' hne).1, fun e => ?_⟩
      rcases hf _ e with h2 | h2
      · exact (hd.far y h1 A' hA' hne).2 h2
      · have hs := hd.sl y h1
        rw [hA'] at hs
        have := hs.lt hne
        omega
    · intro A' hA'
      cases hA'
  · intro y hy
    rcases hmem y hy with h1 | rfl
    · exact hd.sure y h1
    · exact Nat.le_refl _
  · have := hd.total
    simp [tot, newRf] at this ⊢
    exact this
  · refine (t.mono (fun i hi => .inl ?_)).trans ts (fun i hi => .inl ?_)
    · simp at hi
      simp [rblk, hi]
    · simp at hi
      simp [rblk, hi]
  · intro i hi
    simp only [rblk, List.mem_cons, List.mem_append, List.mem_flatMap] at hi ⊢
    rcases hi with rfl | hi | ⟨y, hy, hi⟩
    · exact .inl (.inl rfl)
    · rcases hf i (by simpa using hi) with h1 | h1
      · exact .inl (.inr (.inl (by simp [h1])))
      · exact .inr h1
    · rcases hy with hy | hy | hy
      · exact .inl (.inr (.inr ⟨y, hy, hi⟩))
      · subst hy
        simp [newRf, Rf.blocks] at hi
      · simp at hy

set_option maxHeartbeats 2000000 in
set_option maxRecDepth 100000 in
theorem refAppend_new {b room : Nat} {l : List Nat} {M : List Fm} {n : List UInt8} {ao : Option Addr} {c : Nat} {bs : List UInt8} (w : World) (h : RefM w b room l M) (hn : n ∉ M.map Fm.name) (hfew : M.length ≤ 400000) (hok : okName n = true)
    (hs : Sl w ao c bs) (hsl : ∀ x, ao = some x → bs ≠ [] → x.block ∉ l) (hfull : tot M + bs.length ≤ room) (hroom : room ≤ 1048576) :
    Calls Try.prog 24 #[.pointer (some ⟨b, 0, none⟩), .string ⟨n.toArray⟩, .slice ao bs.length c] w fun e w' => e = .returned (.int .i64 0) ∧ Turn l w w' ∧ ∃ l', RefM w' b room l' (M ++ [⟨n, bs, 0, false⟩]) ∧ ∀ i ∈ l', i ∈ l ∨ w.heap.size ≤ i := by
  have hlen := okName_len hok
  have CM := Lib.hid (may_calls n w (by omega))
  have CU := Lib.hid (fun nq => refUsed_calls _ (h.turn (Turn.drewN [] w nq) (by simp)))
  have CA := Lib.hid (fun nq => refAt_none _ (h.turn (Turn.drewN [] w nq) (by simp)) hn)
  obtain ⟨v, R, hd, hm, hl⟩ := h
  obtain ⟨c0, c1, -, -⟩ := two_cells hd.head
  obtain ⟨ao1, cap, hv, hao⟩ := hd.form
  subst hv
  rw [hok] at CM
  have H := Lib.hid hd
  have HM := Lib.hid hm
  have HL := Lib.hid hl
  have HAO := Lib.hid hao
  have HS := Lib.hid hs
  have HSL := Lib.hid hsl
  clear hd hm hl hao hok hlen hn hs hsl
  obtain ⟨T, hT⟩ : ∃ T, T = tot M := ⟨_, rfl⟩
  obtain ⟨nb, hnb⟩ : ∃ nb, nb = bs.length := ⟨_, rfl⟩
  have HTT : Hid (tot M + bs.length ≤ 1048576) := Lib.hid (by omega)
  rw [← hT] at CU hfull
  rw [← hnb] at hfull ⊢
  have HT := Lib.hid hT
  have HNB := Lib.hid hnb
  clear hT hnb
  have hlt : ¬ ((room : Int) - (T : Int) < (nb : Int)) := by omega
  have hlt2 : decide ((room : Int) - (T : Int) < (nb : Int)) = false := by simpa using hlt
  have HROW : Hid (∀ nq o, ((w.drewN nq).alloc o).ownsRow 0 63 4 (.slice ao1 R.length cap) R.length (rowCells R)) := Lib.hid fun nq o => ownsRow_turn H.out.row ((Turn.drewN [] w nq).trans (Turn.alloc [] _ _) (by simp)) (by simp)
  have HC : Hid (∀ nq j u, (rowCells [newRf n])[j]? = some u → ((w.drewN nq).alloc (.cells #[.string ⟨n.toArray⟩, .slice none 0 0, .int .i64 0, .bool false] 63)).cell? ((⟨w.heap.size, 0, none⟩ : Addr).add j) = some u) := Lib.hid (by
    intro nq j u hu
    have hb := heap_alloc_new (w.drewN nq) (.cells #[.string ⟨n.toArray⟩, .slice none 0 0, .int .i64 0, .bool false] 63)
    rw [Addr.add_lit, Nat.zero_add]
    show ((w.drewN nq).alloc _).cell? ⟨(w.drewN nq).heap.size, j, none⟩ = _
    rw [cell_of_row _ _ _ _ _ _ hb, ← hu]
    simp [rowCells, rfCells, newRf])
  have hRl : R.length ≤ 400000 := by have := HM.out; rw [← this] at hfew; simpa using hfew
  have HR1 : Hid (R.length + [newRf n].length ≤ 1000000) := Lib.hid (by have := HM.out; rw [← this] at hfew; simp at hfew ⊢; omega)
  go_enter Try.func24, Try.ntmps24
  go_wp2_with fail
  refine CM.out.mono ?_
  rintro e w' ⟨rfl, rfl⟩
  go_wp2_with fail
  go_quiet ((go_at_call 36; exact Calls.quiet_of_same ((CU.out _).mono fun _ _ h => ⟨h.1, h.2.symm⟩)))
  go_wp2_with fail
  refine (CA.out _).mono ?_
  rintro e w' ⟨rfl, rfl⟩
  go_wp2_with (at_builtin; refine append_rf_at rfl (.tmp 30) (.tmp 33) rfl (.slice ao1 R.length cap) R rfl (HROW.out _ _) ⟨w.heap.size, 0, none⟩ 1 [newRf n] rfl (HC.out _) HR1.out ?_; intro v2 w2 ho2 hg2 hf2; have T2 : Turn (Value.slice ao1 R.length cap).ownBlock.toList w w2 := ((Turn.drewN _ w _).trans (Turn.alloc _ _ _) (fun i hi => .inl hi)).trans (Turn.grown hg2 (fun k hk => .inl (by simp [hk]))) (fun i hi => .inl hi); have hh2 := T2.heap H.out.head (fun hm => H.out.apart (by simpa using hm)); obtain ⟨-, k2, -, z2⟩ := two_cells hh2; obtain ⟨ao2, cp2, hv2⟩ := rf_slice ho2; have HT2 := Lib.hid T2; have HO2 := Lib.hid ho2; have HF2 := Lib.hid hf2; clear ho2 hg2 hf2 T2 hh2; subst hv2)
  have hp := H.out.push (n := n) HT2.out HO2.out (by
    intro k hk
    rcases HF2.out with e | e <;> rw [hk] at e
    · exact .inl e.symm
    · have := Option.some.inj e
      exact .inr (by rw [this]; exact ((Turn.drewN [] w _).trans (Turn.alloc [] _ _) (by simp)).size))
  have hlen : (R ++ [newRf n]).length = R.length + 1 := by simp
  rw [← hlen]
  generalize hw3 : w2.setCell _ _ = w3 at hp ⊢
  obtain ⟨hd, htw, hlw⟩ := hp
  clear hw3 k2 z2 c0 c1
  obtain ⟨ao3, cap3, hv, hao⟩ := hd.form
  cases hv
  obtain ⟨g, rfl⟩ := hao (by simp)
  have hAl : R.length < (R ++ [newRf n]).length := by simp
  have hxx : (R ++ [newRf n])[R.length]'hAl = newRf n := by simp
  obtain ⟨-, d1, -, -⟩ := hd.cells hAl
  rw [hxx] at d1
  have d1 : w3.cell? ⟨g, R.length * 4 + 1, none⟩ = some (.slice none 0 0) := d1
  obtain ⟨-, c1, -, f1⟩ := two_cells hd.head
  have hcp : (R ++ [newRf n]).length ≤ cp2 ∧ cp2 ≤ 9223372036854775807 := by
    rcases hd.row.2 with ⟨h0, _⟩ | ⟨g', cap', cur, hv, _, _, h1, h2, _⟩
    · cases h0
    · cases hv
      exact ⟨h1, by unfold maxLen at h2; omega⟩
  have hfz : ∀ w2, Turn [] w3 w2 → w2.frozen? ⟨g, R.length * 4 + 1, none⟩ = false := by
    intro w2 ht
    rcases hd.row.2 with ⟨h0, _⟩ | ⟨g', cap', cur, hv, _, hg, _⟩
    · cases h0
    · cases hv
      exact unfrozen_of (ht.heap hg (by simp))
  have hsb : ∀ w2, Turn [] w3 w2 → Sl w2 ao c bs := fun w2 t2 => (HS.out.turn htw (fun A' hA' hne hm => HSL.out A' hA' hne (by rw [← HL.out]; exact hm))).turn t2 (fun _ _ _ hm => by simp at hm)
  have hnb : bs.length ≤ 1048576 := by have := HTT.out; omega
  have HB1 : Hid (([] : List UInt8).length + ([] : List UInt8).length ≤ 140737488355328) := Lib.hid (by simp)
  have HB2 : Hid (([] : List UInt8).length + bs.length ≤ 140737488355328) := Lib.hid (by simp; omega)
  obtain ⟨N, hN⟩ : ∃ N, N = (R ++ [newRf n]).length := ⟨_, rfl⟩
  rw [← hN] at c1 hcp hAl ⊢
  have HD := Lib.hid hd
  have HN := Lib.hid hN
  have HSB := Lib.hid hsb
  have HFZ := Lib.hid hfz
  have HTW := Lib.hid htw
  have HLW := Lib.hid hlw
  have HSX : Hid (Sl w3.drew none 0 []) := Lib.hid (.inl ⟨rfl, rfl, rfl⟩)
  clear hd hN hsb hfz htw hlw hxx hao hlen hnb
  have hlt3 : (R.length : Int) < (N : Int) := by omega
  go_region_law (first
    | (refine step_append_b rfl (.const (.slice none 0 0)) (.tmp 55) rfl (.slice none 0 0) [] rfl (World.ownsRow_nil _ _ _ _) none 0 [] rfl HSX.out HB1.out ?_; intro v1 w4 ho1 hg1 hf1; have T1 : Turn [] w3 w4 := (Turn.drew [] w3).trans (Turn.grown (l := []) hg1 (by intro k hk; cases hk)) (by simp); have k1 := T1.cell c1 (by simp); have e1 := T1.cell d1 (by simp); have q1 := HFZ.out _ T1; have HT4 := Lib.hid T1; have HO1 := Lib.hid ho1; have HF1 := Lib.hid hf1; clear ho1 hg1 hf1 T1)
    | (refine step_append_b rfl (.tmp 56) (.tmp 57) rfl v1 [] rfl HO1.out ao c bs (by rw [← HNB.out]; rfl) (HSB.out _ HT4.out) HB2.out ?_; intro v2 w5 ho2 hg2 hf2; have T2 : Turn [] w3 w5 := HT4.out.trans (Turn.grown (l := v1.ownBlock.toList) hg2 (by intro j hj; simp [hj])) (fun i hi => .inr (by rcases HF1.out with e | e <;> rw [e] at hi <;> simp [Value.ownBlock] at hi; rw [hi]; exact Nat.le_refl _)); have k2 := T2.cell c1 (by simp); have e2 := T2.cell d1 (by simp); have q2 := HFZ.out _ T2; obtain ⟨ao2, cp2, hv2, hs2⟩ := row_slice ho2; have HT5 := Lib.hid T2; have HS2 := Lib.hid hs2; have HF5 := Lib.hid hf2; clear ho2 hg2 hf2 T2 hs2; subst hv2))
  all_goals go_wp2
  all_goals
    go_ret
    refine ⟨rfl, ?_⟩
    have hz := refApp_fin (x := newRf n) (A := R) (B := []) (f := (newRf n).f) (M1 := M) (M2 := []) (Turn.refl [] w3) HD.out ⟨HM.out, rfl, rfl, rfl⟩ (by rw [← HM.out, List.length_map]) HT5.out HS2.out HF1.out HT4.out HF5.out (by have := HTT.out; simp [tot, newRf] at this ⊢; exact this)
    rw [show (newRf n).f.b.length + bs.length = bs.length from Nat.zero_add _] at hz
    obtain ⟨ha, l', hb, hc⟩ := hz
    have hl := HL.out
    refine ⟨(HTW.out.mono (fun i hi => .inl (by rw [← hl]; exact hi))).trans ha (fun i hi => by rw [← hl]; exact HLW.out i hi), l', hb, ?_⟩
    intro i hi
    rcases hc i hi with h1 | h1
    · rw [← hl]
      exact HLW.out i h1
    · exact .inr (Nat.le_trans HTW.out.size h1)

theorem refAppend_fn {b room : Nat} {l : List Nat} {M : List Fm} {n bs : List UInt8} {ao : Option Addr} {c : Nat} (w : World) (h : RefM w b room l M) (hnd : (M.map Fm.name).Nodup) (hfew : M.length ≤ 400000) (hroom : room ≤ 1048576) (hn : n.length ≤ 9223372036854775807) (hs : Sl w ao c bs) (hsl : ∀ x, ao = some x → bs ≠ [] → x.block ∉ l) :
    Calls Try.prog 24 #[.pointer (some ⟨b, 0, none⟩), .string ⟨n.toArray⟩, .slice ao bs.length c] w fun e w' =>
      e = .returned (.int .i64 (appE room M n bs)) ∧ Turn l w w' ∧ ∃ l', RefM w' b room l' (appM room M n bs) ∧ ∀ i ∈ l', i ∈ l ∨ w.heap.size ≤ i := by
  unfold appE appM
  by_cases hok : okName n = true
  · rw [if_pos hok, if_pos hok]
    by_cases hr : room < tot M + bs.length
    · rw [if_pos hr, if_pos hr]
      refine (refAppend_full w h hok hr hroom).mono ?_
      rintro e w' ⟨rfl, ht⟩
      exact ⟨rfl, ht.mono (by simp), l, h.turn ht (by simp), fun i hi => .inl hi⟩
    · rw [if_neg hr, if_neg hr]
      unfold mApp
      by_cases hh : hasF M n = true
      · rw [if_pos hh]
        obtain ⟨A, g, B, rfl, rfl⟩ := hasF_split hh
        rw [mUp_split _ hnd]
        exact refAppend_old w h hnd hok hs hsl (by omega) hroom
      · rw [if_neg hh]
        exact refAppend_new w h (hasF_not (by simpa using hh)) hfew hok hs hsl (by omega) hroom
  · rw [if_neg hok, if_neg hok]
    refine (refAppend_form w hn (by simpa using hok)).mono ?_
    rintro e w' ⟨rfl, rfl⟩
    exact ⟨rfl, Turn.refl _ _, l, h, fun i hi => .inl hi⟩

end Go.Proofs.Ytlcilbbgfilefaa
