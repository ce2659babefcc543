/-
  The walk of the reference's Append.
-/
import Derived.Test.YtlcilbbgfilefaaRefRen
namespace Go.Proofs.Ytlcilbbgfilefaa
open Go.RowKit

/-- 'append(x, y...)' on bytes within a region that draws its order. -/
theorem step_append_b {ops : Array Oper} {o : Oper} {a : Act} {w : World} {K : Act → World → Prop} {Q : Exit → Act → World → Prop} {E : Prop} (hgd : o.guard = none) (s x : Operand)
    (ho : o.op = .call { callee := .builtin .append, args := #[s, x], argTypes := #[30, 30] })
    (v : Value) (l : List UInt8) (hs : a.eval s = v) (hown : w.ownsRow 0 5 1 v l.length (u8s l))
    (ao : Option Addr) (c : Nat) (l2 : List UInt8) (hx : a.eval x = .slice ao l2.length c) (hsl : Sl w ao c l2) (hb : l.length + l2.length ≤ 140737488355328)
    (h : ∀ v' w', w'.ownsRow 0 5 1 v' (l ++ l2).length (u8s (l ++ l2)) → w.grownBy w' v.ownBlock → (v'.ownBlock = v.ownBlock ∨ v'.ownBlock = some w.heap.size) → K (a.put o.dst v') w') :
    if Region.wanted o (yielded ops a.tmps) = true then Oper.wp Try.prog o a w K Q else E := by
  have hw : Region.wanted o (yielded ops a.tmps) = true := by simp [Region.wanted, hgd]
  rw [if_pos hw]
  obtain ⟨i0, hi, hz0, hz1, hz2⟩ := info_parts Try.u8row
  rcases hsl with ⟨rfl, rfl, rfl⟩ | ⟨A, rfl, h1, h2, hc⟩
  · have hr := run_append_owned_none (P := Try.prog) (w := w) 0 30 o.type 5 i0 1 Try.underlying30 hi v l.length (u8s l) hown
    unfold Oper.wp execOp
    simp only [ho, resolve, invoke, builtin, Sem.run_bind, Sem.run_pure, Result.andThen_ok, List.map_toArray, List.map_cons, List.map_nil, hs, hx, List.length_nil, hr]
    exact h v w (by simpa using hown) (World.grownBy.refl _ _) (.inl rfl)
  · obtain ⟨v', w', hr, h2, h3, h4, h5⟩ := run_append_own_at (P := Try.prog) w 0 30 o.type 5 i0 (.int .u8 0) 1 1 Try.underlying30 hi hz0 hz1 hz2 rfl (by decide) v l.length (u8s l) hown A l2.length c (u8s l2) (by rw [u8s_length]; omega) (Sl.cells (.inr ⟨A, rfl, h1, h2, hc⟩)) (u8s_oneCell l2) (by unfold maxLen; omega) (by omega) (Nat.zero_le _)
    unfold Oper.wp execOp
    simp only [ho, resolve, invoke, builtin, Sem.run_bind, Sem.run_pure, Result.andThen_ok, List.map_toArray, List.map_cons, List.map_nil, hs, hx, hr]
    exact h v' w' (by rw [List.length_append, u8s_append]; exact h2) h3 h5

theorem RefM.total {w : World} {b room : Nat} {l : List Nat} {M : List Fm} (h : RefM w b room l M) : tot M ≤ 1048576 := by
  obtain ⟨v, R, hd, rfl, rfl⟩ := h
  exact hd.total

set_option maxHeartbeats 400000 in
theorem refAppend_form {b : Nat} {ao : Option Addr} {c k : Nat} {n : List UInt8} (w : World) (hl : n.length ≤ 9223372036854775807) (hok : okName n = false) :
    Calls Try.prog 24 #[.pointer (some ⟨b, 0, none⟩), .string ⟨n.toArray⟩, .slice ao k c] w fun e w' => e = .returned (.int .i64 1) ∧ w = w' := by
  have CM := Lib.hid (may_calls n w hl)
  rw [hok] at CM
  clear hok
  go_enter Try.func24, Try.ntmps24
  go_wp2_with fail
  refine CM.out.mono ?_
  rintro e w' ⟨rfl, rfl⟩
  go_wp2
  go_ret
  exact ⟨rfl, rfl⟩

theorem RefM.room {w : World} {b room : Nat} {l : List Nat} {M : List Fm} (h : RefM w b room l M) : w.cell? ⟨b, 0, none⟩ = some (.int .i64 (room : Int)) := by
  obtain ⟨v, R, hd, rfl, rfl⟩ := h
  exact (two_cells hd.head).1

set_option maxHeartbeats 1000000 in
theorem refAppend_full {b room : Nat} {l : List Nat} {M : List Fm} {ao : Option Addr} {c k : Nat} {n : List UInt8} (w : World) (h : RefM w b room l M) (hok : okName n = true) (hfull : room < tot M + k) (hroom : room ≤ 1048576) :
    Calls Try.prog 24 #[.pointer (some ⟨b, 0, none⟩), .string ⟨n.toArray⟩, .slice ao k c] w fun e w' => e = .returned (.int .i64 5) ∧ Turn [] w w' := by
  have hlen := okName_len hok
  have CM := Lib.hid (may_calls n w (by omega))
  have CU := Lib.hid (fun nq => refUsed_calls _ (h.turn (Turn.drewN [] w nq) (by simp)))
  have c0 := h.room
  have ht := h.total
  rw [hok] at CM
  clear h hok hlen
  generalize tot M = T at *
  have hlt : (room : Int) - (T : Int) < (k : Int) := by omega
  have hlt2 : decide ((room : Int) - (T : Int) < (k : Int)) = true := by simpa using hlt
  go_enter Try.func24, Try.ntmps24
  go_wp2_with fail
  refine CM.out.mono ?_
  rintro e w' ⟨rfl, rfl⟩
  go_wp2_with fail
  go_quiet ((go_at_call 36; exact Calls.quiet_of_same ((CU.out _).mono fun _ _ h => ⟨h.1, h.2.symm⟩)))
  go_wp2
  go_ret
  exact ⟨rfl, Turn.drewN [] _ _⟩

theorem refApp_fin {w w1 w2 w3 : World} {b room g cap k cp2 : Nat} {l : List Nat} {M1 M2 : List Fm} {f : Fm} {A B : List Rf} {x : Rf} {ao2 : Option Addr} {bs : List UInt8} {v1 : Value} (t1 : Turn [] w w1)
    (hd : RefIs w1 b room (.slice (some ⟨g, 0, none⟩) (A ++ x :: B).length cap) (A ++ x :: B)) (hX : A.map Rf.f = M1 ∧ x.f = f ∧ B.map Rf.f = M2 ∧ rblk b (.slice (some ⟨g, 0, none⟩) (A ++ x :: B).length cap) (A ++ x :: B) = l) (hk : k = M1.length)
    (t3 : Turn [] w1 w3) (hs : Sl w3 ao2 cp2 (x.f.b ++ bs)) (hf1 : v1.ownBlock = (Value.slice none 0 0).ownBlock ∨ v1.ownBlock = some w1.heap.size) (t2 : Turn [] w1 w2) (hf2 : (Value.slice ao2 (x.f.b ++ bs).length cp2).ownBlock = v1.ownBlock ∨ (Value.slice ao2 (x.f.b ++ bs).length cp2).ownBlock = some w2.heap.size)
    (htot : tot (M1 ++ f :: M2) + bs.length ≤ 1048576) :
    Turn l w (w3.setCell ⟨g, k * 4 + 1, none⟩ (.slice ao2 (x.f.b.length + bs.length) cp2)) ∧ ∃ l', RefM (w3.setCell ⟨g, k * 4 + 1, none⟩ (.slice ao2 (x.f.b.length + bs.length) cp2)) b room l' (M1 ++ longer f bs :: M2) ∧ ∀ i ∈ l', i ∈ l ∨ w.heap.size ≤ i := by
  obtain ⟨rfl, rfl, rfl, rfl⟩ := hX
  rw [List.length_map] at hk
  subst hk
  have hlt := hd.lt
  have hgl : g < w1.heap.size := hlt g (by simp [rblk, Value.ownBlock])
  have hbl : b < w1.heap.size := hlt b (by simp [rblk])
  have hfresh : ∀ A', ao2 = some A' → w1.heap.size ≤ A'.block := by
    intro A' hA'
    subst hA'
    have e : (Value.slice (some A') (x.f.b ++ bs).length cp2).ownBlock = some A'.block := rfl
    rw [e] at hf2
    rcases hf2 with e2 | e2
    · rw [← e2] at hf1
      rcases hf1 with e3 | e3
      · cases e3
      · have := Option.some.inj e3; omega
    · have := Option.some.inj e2
      have := t2.size
      omega
  have hd3 := hd.turn t3 (by simp)
  have ts : Turn [g] w3 (w3.setCell ⟨g, A.length * 4 + 1, none⟩ (.slice ao2 (x.f.b.length + bs.length) cp2)) := Turn.setCell _ (by simp) _
  have hrow : (w3.setCell ⟨g, A.length * 4 + 1, none⟩ (.slice ao2 (x.f.b.length + bs.length) cp2)).ownsRow 0 63 4 (.slice (some ⟨g, 0, none⟩) (A ++ x :: B).length cap) (A ++ x :: B).length (rowCells (A ++ ⟨longer x.f bs, ao2, cp2⟩ :: B)) := by
    have hr := hd3.row
    rw [rowCells_split] at hr
    have h1 := ownsRow_set hr (A.length * 4 + 1) (.slice ao2 (x.f.b.length + bs.length) cp2)
    rw [rowCells_set A B _ rfl 1 (by omega)] at h1
    rw [rowCells_split]
    have e : rfCells ⟨longer x.f bs, ao2, cp2⟩ = (rfCells x).set 1 (.slice ao2 (x.f.b.length + bs.length) cp2) := by simp [rfCells, longer]
    rw [e]
    exact h1
  have hst : RefIs (w3.setCell ⟨g, A.length * 4 + 1, none⟩ (.slice ao2 (x.f.b.length + bs.length) cp2)) b room (.slice (some ⟨g, 0, none⟩) (A ++ x :: B).length cap) (A ++ ⟨longer x.f bs, ao2, cp2⟩ :: B) := by
    refine hd3.stamp ts hrow ?_ ?_ ?_ ?_
    · refine hs.turn ts (fun A' hA' _ hm => ?_)
      have := hfresh A' hA'
      simp at hm
      omega
    · intro A' hA' _
      have := hfresh A' hA'
      exact ⟨by omega, by omega⟩
    · have := hd.sure x (by simp)
      simp [longer]
      omega
    · simp [tot, longer] at htot ⊢
      omega
  have ht : Turn [g] w (w3.setCell ⟨g, A.length * 4 + 1, none⟩ (.slice ao2 (x.f.b.length + bs.length) cp2)) := (((t1.trans t3 (by simp)).mono (l' := [g]) (by simp))).trans ts (fun i hi => .inl hi)
  refine ⟨ht.mono (fun i hi => .inl (by simp at hi; simp [rblk, Value.ownBlock, hi])), _, ⟨_, _, hst, by simp, rfl⟩, ?_⟩
  intro i hi
  have hsz := t1.size
  simp only [rblk, List.mem_cons, List.mem_append, List.mem_flatMap] at hi ⊢
  rcases hi with rfl | hi | ⟨y, hy, hi⟩
  · exact .inl (.inl rfl)
  · exact .inl (.inr (.inl hi))
  · rcases hy with hy | rfl | hy
    · exact .inl (.inr (.inr ⟨y, .inl hy, hi⟩))
    · right
      unfold Rf.blocks at hi
      split at hi
      · simp at hi
      · cases ha : ao2 with
        | none => rw [ha] at hi; simp at hi
        | some A' =>
          have := hfresh A' ha
          rw [ha] at hi
          simp at hi
          omega
    · exact .inl (.inr (.inr ⟨y, .inr (.inr hy), hi⟩))

set_option maxHeartbeats 2000000 in
set_option maxRecDepth 100000 in
theorem refAppend_old {b room : Nat} {l : List Nat} {M1 M2 : List Fm} {f : Fm} {ao : Option Addr} {c : Nat} {bs : List UInt8} (w : World) (h : RefM w b room l (M1 ++ f :: M2)) (hnd : ((M1 ++ f :: M2).map Fm.name).Nodup) (hok : okName f.name = true)
    (hs : Sl w ao c bs) (hsl : ∀ x, ao = some x → bs ≠ [] → x.block ∉ l) (hfull : tot (M1 ++ f :: M2) + bs.length ≤ room) (hroom : room ≤ 1048576) :
    Calls Try.prog 24 #[.pointer (some ⟨b, 0, none⟩), .string ⟨f.name.toArray⟩, .slice ao bs.length c] w fun e w' => e = .returned (.int .i64 0) ∧ Turn l w w' ∧ ∃ l', RefM w' b room l' (M1 ++ longer f bs :: M2) ∧ ∀ i ∈ l', i ∈ l ∨ w.heap.size ≤ i := by
  have hlen := okName_len hok
  have CM := Lib.hid (may_calls f.name w (by omega))
  have CU := Lib.hid (fun nq => refUsed_calls _ (h.turn (Turn.drewN [] w nq) (by simp)))
  have CA := Lib.hid (fun nq => refAt_some _ (h.turn (Turn.drewN [] w nq) (by simp)) hnd)
  have c0 := h.room
  rw [hok] at CM
  have H := Lib.hid h
  have HS := Lib.hid hs
  have HSL := Lib.hid hsl
  clear h hok hlen hnd hs hsl
  obtain ⟨T, hT⟩ : ∃ T, T = tot (M1 ++ f :: M2) := ⟨_, rfl⟩
  obtain ⟨nb, hnb⟩ : ∃ nb, nb = bs.length := ⟨_, rfl⟩
  obtain ⟨k, hk⟩ : ∃ k, k = M1.length := ⟨_, rfl⟩
  obtain ⟨s, hsn⟩ : ∃ s, s = f.name := ⟨_, rfl⟩
  rw [← hT] at CU hfull
  rw [← hnb] at hfull ⊢
  rw [← hk] at CA
  rw [← hsn] at CA CM ⊢
  have HTT : Hid (tot (M1 ++ f :: M2) + bs.length ≤ 1048576) := Lib.hid (by omega)
  have HT := Lib.hid hT
  have HNB := Lib.hid hnb
  have HK := Lib.hid hk
  clear hT hnb hk hsn
  have hlt : ¬ ((room : Int) - (T : Int) < (nb : Int)) := by omega
  have hlt2 : decide ((room : Int) - (T : Int) < (nb : Int)) = false := by simpa using hlt
  go_enter Try.func24, Try.ntmps24
  go_wp2_with fail
  refine CM.out.mono ?_
  rintro e w' ⟨rfl, rfl⟩
  go_wp2_with fail
  go_quiet ((go_at_call 36; exact Calls.quiet_of_same ((CU.out _).mono fun _ _ h => ⟨h.1, h.2.symm⟩)))
  go_wp2_with fail
  refine (CA.out _).mono ?_
  rintro e w' ⟨rfl, rfl⟩
  go_wp2_with fail
  generalize hw1 : w.drewN _ = w1
  have t1 : Turn [] w w1 := by rw [← hw1]; exact Turn.drewN [] w _
  clear hw1
  obtain ⟨v, A, x, B, hd, hA, hx, hB, hl⟩ := (H.out.turn t1 (by simp)).split
  obtain ⟨ao1, cap, hv, hao⟩ := hd.form
  obtain ⟨g, rfl⟩ := hao (by simp)
  subst hv
  have hAl : A.length < (A ++ x :: B).length := by simp
  have hxx : (A ++ x :: B)[A.length]'hAl = x := by simp
  obtain ⟨-, d1, -, -⟩ := hd.cells hAl
  rw [hxx] at d1
  obtain ⟨-, c1, -, f1⟩ := two_cells hd.head
  have hcp : (A ++ x :: B).length ≤ cap ∧ cap ≤ 9223372036854775807 := by
    rcases hd.row.2 with ⟨h0, _⟩ | ⟨g', cap', cur, hv, _, _, h1, h2, _⟩
    · cases h0
    · cases hv
      exact ⟨h1, by unfold maxLen at h2; omega⟩
  have hkA : A.length = k := by rw [HK.out, ← hA, List.length_map]
  rw [hkA] at d1 hAl
  have hfz : ∀ w2, Turn [] w1 w2 → w2.frozen? ⟨g, k * 4 + 1, none⟩ = false := by
    intro w2 ht
    rcases hd.row.2 with ⟨h0, _⟩ | ⟨g', cap', cur, hv, _, hg, _⟩
    · cases h0
    · cases hv
      exact unfrozen_of (ht.heap hg (by simp))
  have hbl : x.f.b.length + nb ≤ 1048576 := by
    have : x.f.b.length ≤ T := by
      rw [HT.out, ← hx]
      simp [tot]
      omega
    omega
  have hsx : Sl w1.drew x.ao x.c x.f.b := (hd.sl x (by simp)).turn (Turn.drew [] w1) (fun _ _ _ hm => by simp at hm)
  have hsb : ∀ w2, Turn [] w1 w2 → Sl w2 ao c bs := fun w2 t2 => (HS.out.turn t1 (fun _ _ _ hm => by simp at hm)).turn t2 (fun _ _ _ hm => by simp at hm)
  obtain ⟨N, hN⟩ : ∃ N, N = (A ++ x :: B).length := ⟨_, rfl⟩
  obtain ⟨lb, hlb⟩ : ∃ lb, lb = x.f.b.length := ⟨_, rfl⟩
  rw [← hN] at c1 hcp hAl
  rw [← hlb] at d1 hbl
  have HD := Lib.hid hd
  have HX := Lib.hid (show A.map Rf.f = M1 ∧ x.f = f ∧ B.map Rf.f = M2 ∧ _ from ⟨hA, hx, hB, hl⟩)
  have HSX := Lib.hid hsx
  have HSB := Lib.hid hsb
  have HFZ := Lib.hid hfz
  have HLB := Lib.hid hlb
  have HN := Lib.hid hN
  have HT1 := Lib.hid t1
  have HB1 : Hid (([] : List UInt8).length + x.f.b.length ≤ 140737488355328) := Lib.hid (by simp; omega)
  have HB2 : Hid (x.f.b.length + bs.length ≤ 140737488355328) := Lib.hid (by rw [← HLB.out, ← HNB.out]; omega)
  clear hd hA hx hB hl hsx hsb hfz hlb hN t1 hxx hao hkA
  have hlt3 : (k : Int) < (N : Int) := by omega
  go_region_law (first
    | (refine step_append_b rfl (.const (.slice none 0 0)) (.tmp 55) rfl (.slice none 0 0) [] rfl (World.ownsRow_nil _ _ _ _) x.ao x.c x.f.b (by rw [← HLB.out]; rfl) HSX.out HB1.out ?_; intro v1 w2 ho1 hg1 hf1; have T1 : Turn [] w1 w2 := (Turn.drew [] w1).trans (Turn.grown (l := []) hg1 (by intro k hk; cases hk)) (by simp); have k1 := T1.cell c1 (by simp); have e1 := T1.cell d1 (by simp); have q1 := HFZ.out _ T1; have HT2 := Lib.hid T1; have HO1 := Lib.hid ho1; have HF1 := Lib.hid hf1; clear ho1 hg1 hf1 T1)
    | (refine step_append_b rfl (.tmp 56) (.tmp 57) rfl v1 x.f.b rfl HO1.out ao c bs (by rw [← HNB.out]; rfl) (HSB.out _ HT2.out) HB2.out ?_; intro v2 w3 ho2 hg2 hf2; have T2 : Turn [] w1 w3 := HT2.out.trans (Turn.grown (l := v1.ownBlock.toList) hg2 (by intro j hj; simp [hj])) (fun i hi => .inr (by rcases HF1.out with e | e <;> rw [e] at hi <;> simp [Value.ownBlock] at hi; rw [hi]; exact Nat.le_refl _)); have k2 := T2.cell c1 (by simp); have e2 := T2.cell d1 (by simp); have q2 := HFZ.out _ T2; obtain ⟨ao2, cp2, hv2, hs2⟩ := row_slice ho2; have HT3 := Lib.hid T2; have HS2 := Lib.hid hs2; have HF2 := Lib.hid hf2; clear ho2 hg2 hf2 T2 hs2; subst hv2))
  all_goals go_wp2
  all_goals (go_ret; exact ⟨rfl, refApp_fin HT1.out HD.out HX.out HK.out HT3.out HS2.out HF1.out HT2.out HF2.out HTT.out⟩)

end Go.Proofs.Ytlcilbbgfilefaa
