/-
  The walk of the law HatchOrder.
-/
import Derived.Test.YtijpfahiedggmaaBegun5
import Derived.Test.YtijpfahiedggmaaHatI
import Derived.Test.YtijpfahiedggmaaQue
import Derived.Test.YtijpfahiedggmaaOpenOps5
import Derived.Laws.AppendOwnNone
namespace Go.Proofs.Ytijpfahiedggmaa
open Go.RowKit Go.Conc

/-- A row of numbers of the call's own. -/
abbrev Rw (w : World) (base : Nat) (v : Value) (xs : List Int) : Prop := w.ownsRow base 3 1 v xs.length (ints xs)

theorem Rw.slice {w : World} {base : Nat} {v : Value} {xs : List Int} (h : Rw w base v xs) : ∃ ao cap, v = .slice ao xs.length cap := by
  obtain ⟨-, ⟨rfl, h0⟩ | ⟨g, cap, cur, rfl, -⟩⟩ := h
  · exact ⟨none, 0, by rw [h0]⟩
  · exact ⟨_, _, rfl⟩

/-- Its block is cells of numbers. -/
theorem Rw.blk {w : World} {base : Nat} {v : Value} {xs : List Int} (h : Rw w base v xs) {g : Nat} (hg : v.ownBlock = some g) : base ≤ g ∧ ∃ cur, w.heap[g]? = some (.cells cur 3 (0, 0)) := by
  obtain ⟨-, ⟨rfl, h0⟩ | ⟨g', cap, cur, rfl, hB, hh, -⟩⟩ := h
  · cases hg
  · cases hg
    exact ⟨hB, cur, hh⟩

theorem HIs.row_ne {w : World} {b c1 c2 room lost g : Nat} {F S : List (Nat × Value)} {cur : Array Value} (h : HI w b c1 c2 room F S lost) (hg : w.heap[g]? = some (.cells cur 3 (0, 0))) : b ≠ g ∧ c1 ≠ g ∧ c2 ≠ g := by
  obtain ⟨h0, ⟨⟨s, r, h1⟩, -⟩, ⟨⟨s', r', h2⟩, -⟩, -⟩ := h
  refine ⟨fun e => ?_, fun e => ?_, fun e => ?_⟩
  · rw [e, hg] at h0
    have := (Obj.cells.inj (Option.some.inj h0)).2.1
    exact absurd this (by decide)
  · exact chan_ne h1 hg e.symm
  · exact chan_ne h2 hg e.symm

/-- 'append(x, n)'. -/
theorem append_row {w : World} {ops : Array Oper} {rest : List Oper} {o : Oper} {a : Act} {Q : Exit → Act → World → Prop} (hgd : o.guard = none) (s x : Operand)
    (ho : o.op = .call { callee := .builtin .append, args := #[s, x], argTypes := #[26, 26] })
    (base : Nat) (v : Value) (n : Nat) (xs : List Int) (hs : a.eval s = v) (hq : w.ownsRow base 3 1 v n (ints xs))
    (g0 : Nat) (c : Nat) (y : Int) (hx : a.eval x = .slice (some ⟨g0, 0, none⟩) 1 c) (hy : w.cell? ⟨g0, 0, none⟩ = some (.int .i64 y))
    (hlen : n ≤ 1000) (hbase : base ≤ w.heap.size)
    (h : ∀ v' w', w'.ownsRow base 3 1 v' (n + 1) (ints (xs ++ [y])) → w.grownBy w' v.ownBlock → (v'.ownBlock = v.ownBlock ∨ ∀ g, v'.ownBlock = some g → w.heap.size ≤ g) → wpList Try.prog ops Q rest (a.put o.dst v') w') : wpList Try.prog ops Q (o :: rest) a w := by
  obtain ⟨i0, hi, hz0, hz1, hz2⟩ := info_parts Try.introw
  refine wpList_append_own_at w hgd s x 26 ho base 3 i0 (.int .i64 0) 1 8 Try.underlying26 hi hz0 hz1 hz2 rfl (by decide) v n (ints xs) hs hq ⟨g0, 0, none⟩ 1 c [.int .i64 y] hx rfl ?_ (by simp [Value.oneCell']) (by unfold maxLen; omega) (by omega) hbase ?_
  · intro j u hj
    rcases j with _ | j
    · simp at hj
      subst hj
      exact hy
    · simp at hj
  · intro v' w' h1 h2 _ h4
    refine h v' w' ?_ h2 ?_
    · simpa [ints] using h1
    · rcases h4 with h4 | h4
      · exact .inl h4
      · exact .inr (fun g hg => by rw [h4] at hg; cases hg; exact Nat.le_refl _)

/-- 'append(x, y...)'. -/
theorem append_rows {w : World} {ops : Array Oper} {rest : List Oper} {o : Oper} {a : Act} {Q : Exit → Act → World → Prop} (hgd : o.guard = none) (s x : Operand)
    (ho : o.op = .call { callee := .builtin .append, args := #[s, x], argTypes := #[26, 26] })
    (base : Nat) (v : Value) (xs : List Int) (hs : a.eval s = v) (hq : Rw w base v xs)
    (v2 : Value) (ys : List Int) (hx : a.eval x = v2) (hy : Rw w base v2 ys)
    (hlen : xs.length ≤ 1000) (hlen2 : ys.length ≤ 1000) (hbase : base ≤ w.heap.size)
    (h : ∀ v' w', Rw w' base v' (xs ++ ys) → w.grownBy w' v.ownBlock → wpList Try.prog ops Q rest (a.put o.dst v') w') : wpList Try.prog ops Q (o :: rest) a w := by
  obtain ⟨i0, hi, hz0, hz1, hz2⟩ := info_parts Try.introw
  obtain ⟨h0, ⟨rfl, hn⟩ | ⟨g, cap, cur, rfl, hB, hg, hn, hm, hsz, htk⟩⟩ := id hy
  · have hys : ys = [] := List.eq_nil_of_length_eq_zero hn
    subst hys
    refine wpList_append_own_none hgd s x 26 ho base 3 i0 1 Try.underlying26 hi v xs.length (ints xs) hs hq hx ?_
    refine h v w ?_ (World.grownBy.refl _ _)
    rw [List.append_nil]
    exact hq
  · refine wpList_append_own_at w hgd s x 26 ho base 3 i0 (.int .i64 0) 1 8 Try.underlying26 hi hz0 hz1 hz2 rfl (by decide) v xs.length (ints xs) hs hq ⟨g, 0, none⟩ ys.length cap (ints ys) hx (by rw [ints_length]; omega) (World.ownsRow.cells (g := g) hy rfl) ?_ (by unfold maxLen; omega) (by omega) hbase ?_
    · intro u hu
      simp [ints] at hu
      obtain ⟨z, -, rfl⟩ := hu
      rfl
    · intro v' w' h1 h2 _ h4
      refine h v' w' ?_ h2
      simpa [ints, Rw] using h1

/-- None of these lies in the row. -/
def Off (v : Value) (F : List (Nat × Value)) : Prop := ∀ g, v.ownBlock = some g → ∀ p ∈ F, p.1 ≠ g

theorem Off.grow {v v' : Value} {F : List (Nat × Value)} {n : Nat} (h : Off v F) (hat : v'.ownBlock = v.ownBlock ∨ ∀ g, v'.ownBlock = some g → n ≤ g) (hF : ∀ p ∈ F, p.1 < n) : Off v' F := by
  intro g hg p hp
  rcases hat with h1 | h1
  · exact h g (by rw [← h1]; exact hg) p hp
  · have := h1 g hg
    have := hF p hp
    omega

theorem Off.fast {v : Value} {F S : List (Nat × Value)} {k : Nat} {x : Value} (h : Off v (F ++ S)) (hk : ∀ g, v.ownBlock = some g → g < k) : Off v ((F ++ [(k, x)]) ++ S) := by
  intro g hg p hp
  simp only [List.mem_append, List.mem_singleton] at hp
  rcases hp with (hp | rfl) | hp
  · exact h g hg p (by simp [hp])
  · exact Nat.ne_of_gt (hk g hg)
  · exact h g hg p (by simp [hp])

theorem Off.slow {v : Value} {F S : List (Nat × Value)} {k : Nat} {x : Value} (h : Off v (F ++ S)) (hk : ∀ g, v.ownBlock = some g → g < k) : Off v (F ++ (S ++ [(k, x)])) := by
  intro g hg p hp
  simp only [List.mem_append, List.mem_singleton] at hp
  rcases hp with hp | hp | rfl
  · exact h g hg p (by simp [hp])
  · exact h g hg p (by simp [hp])
  · exact Nat.ne_of_gt (hk g hg)

/-- While a row grows the hatch stays. -/
theorem HIs.grown {w w' : World} {b c1 c2 room lost : Nat} {F S : List (Nat × Value)} {v : Value} (h : HI w b c1 c2 room F S lost) (hg : w.grownBy w' v.ownBlock) (ho : Off v (F ++ S)) (hb : ∀ g, v.ownBlock = some g → b ≠ g ∧ c1 ≠ g ∧ c2 ≠ g) : HI w' b c1 c2 room F S lost := by
  have ht : Turn v.ownBlock.toList w w' := Turn.grown hg (fun k hk => .inl (by rw [hk]; simp))
  refine h.turn ht ?_ ?_ ?_ ?_
  · intro hm
    have := Option.mem_toList.1 hm
    exact (hb b this).1 rfl
  · intro hm
    have := Option.mem_toList.1 hm
    exact (hb c1 this).2.1 rfl
  · intro hm
    have := Option.mem_toList.1 hm
    exact (hb c2 this).2.2 rfl
  · intro p hp hm
    have := Option.mem_toList.1 hm
    exact ho _ this p hp rfl

theorem grown_below {B : Nat} {w w' : World} {v : Value} (hg : w.grownBy w' v.ownBlock) (hv : ∀ g, v.ownBlock = some g → B ≤ g) (hB : B ≤ w.heap.size) : Below B w w' :=
  ⟨hg.os, hg.tape, hg.output, hg.size, fun k hk => hg.block k (by omega) (fun e => by have := hv k e.symm; omega)⟩

theorem snd_snoc {F : List (Nat × Value)} {fs : List Int} {k : Nat} {x : Int} (h : F.map Prod.snd = ints fs) : (F ++ [(k, Value.int .i64 x)]).map Prod.snd = ints (fs ++ [x]) := by
  rw [List.map_append, h]
  simp [ints]

/-- Two rows stay apart when one grows. -/
theorem apart_grow {v v' u : Value} {n : Nat} (h : ∀ g, v.ownBlock = some g → u.ownBlock ≠ some g) (hat : v'.ownBlock = v.ownBlock ∨ ∀ g, v'.ownBlock = some g → n ≤ g) (hu : ∀ g, u.ownBlock = some g → g < n) : ∀ g, v'.ownBlock = some g → u.ownBlock ≠ some g := by
  intro g hg e
  rcases hat with h1 | h1
  · exact h g (by rw [← h1]; exact hg) e
  · have := h1 g hg
    have := hu g e
    omega

theorem kept_apart {w w' : World} {base n : Nat} {v u : Value} {xs : List Value} (h : w.ownsRow base 3 1 u n xs) (hg : w.grownBy w' v.ownBlock) (hap : ∀ g, v.ownBlock = some g → u.ownBlock ≠ some g) : w'.ownsRow base 3 1 u n xs := by
  refine h.kept hg ?_
  cases hu : u.ownBlock with
  | none => exact .inl rfl
  | some g => exact .inr (fun e => hap g e.symm hu)

theorem ints_take {L : List Int} {v : Value} {rest : List Value} {j : Nat} (h : v :: rest = ints (L.drop j)) : ∃ x, v = .int .i64 x ∧ L[j]? = some x ∧ rest = ints (L.drop (j + 1)) ∧ j < L.length := by
  have hj : j < L.length := by
    have := congrArg List.length h
    simp [ints] at this
    omega
  rw [List.drop_eq_getElem_cons hj] at h
  simp only [ints, List.map_cons, List.cons.injEq] at h
  exact ⟨L[j], h.1, List.getElem?_eq_getElem hj, h.2, hj⟩

set_option maxHeartbeats 4000000 in
set_option maxRecDepth 100000 in
theorem hatchOrder_walk {w : World} (a0 : Option Addr) (cap0 : Nat) (l0 : List Bool) (w0 : Bl w a0 cap0 l0) :
    Calls Try.prog 6 #[.slice a0 l0.length cap0] w fun e w' => e = .returned (.bool true) ∧ Below w.heap.size w w' := by
  have hlen := w0.len
  have H0 := Lib.hid w0
  clear w0
  go_enter Try.func6, Try.ntmps6
  go_wp2_with fail
  refine (begun_calls _).mono ?_
  rintro e x1 ⟨rfl, hb1⟩
  go_wp2_with fail
  refine (newI 64 x1).mono ?_
  rintro e x2 ⟨b, c1, c2, rfl, h2, t2, hc0, hc1, hc2⟩
  rw [show roomOf 64 = 64 by decide] at h2
  have hs1 := hb1.size
  have B2 : Hid (Below w.heap.size w x2) := Lib.hid (hb1.trans (t2.belowAll.mono hs1))
  have BD := Lib.hid (show w.heap.size ≤ b ∧ w.heap.size ≤ c1 ∧ w.heap.size ≤ c2 by omega)
  have H2 := Lib.hid h2
  clear h2 t2 hb1 hc0 hc1 hc2 hs1
  obtain ⟨q, hq⟩ : ∃ q, q = w.heap.size := ⟨_, rfl⟩
  have HQ := Lib.hid hq
  rw [← hq] at B2 BD
  clear hq
  go_wp2_with fail
  go_loopw [5, 6, 7] (fun v5 v6 i wr => ∃ (k : Nat) (F S : List (Nat × Value)) (fs ss : List Int), k ≤ l0.length ∧ k ≤ 60 ∧ i = .int .i64 k ∧ (HI wr b c1 c2 64 F S 0 ∧ F.map Prod.snd = ints fs ∧ S.map Prod.snd = ints ss) ∧ (Rw wr q v5 fs ∧ Rw wr q v6 ss ∧ fs.length + ss.length = k) ∧ (∀ g, v5.ownBlock = some g → v6.ownBlock ≠ some g) ∧ (Off v5 (F ++ S) ∧ Off v6 (F ++ S)) ∧ Below q w wr) (fun _ _ i _ => 60 - (intOf i).toNat)
  case atStart => exact ⟨0, [], [], [], [], by omega, by omega, rfl, ⟨H2.out, rfl, rfl⟩, ⟨World.ownsRow_nil _ _ _ _, World.ownsRow_nil _ _ _ _, rfl⟩, (by intro g hg; cases hg), ⟨(by intro g hg; cases hg), (by intro g hg; cases hg)⟩, B2.out⟩
  case round =>
    clear H2 B2
    obtain ⟨k, F, S, fs, ss, hk, hk60, rfl, ⟨hh, hF, hS⟩, ⟨hr5, hr6, hsum⟩, hap, ⟨ho5, ho6⟩, hbl⟩ := hrel
    have H3 := Lib.hid hh
    have HF := Lib.hid hF
    have HSS := Lib.hid hS
    have R5 := Lib.hid (show wr.ownsRow q 3 1 _ fs.length (ints fs) from hr5)
    have R6 := Lib.hid (show wr.ownsRow q 3 1 _ ss.length (ints ss) from hr6)
    have AP := Lib.hid hap
    have O5 := Lib.hid ho5
    have O6 := Lib.hid ho6
    have B3 := Lib.hid hbl
    obtain ⟨ao5, cp5, rfl⟩ := Rw.slice hr5
    obtain ⟨ao6, cp6, rfl⟩ := Rw.slice hr6
    have SUM := Lib.hid hsum
    obtain ⟨n5, hn5⟩ : ∃ n, n = fs.length := ⟨_, rfl⟩
    obtain ⟨n6, hn6⟩ : ∃ n, n = ss.length := ⟨_, rfl⟩
    have HN5 := Lib.hid hn5
    have HN6 := Lib.hid hn6
    rw [← hn5] at hsum R5 AP O5 ⊢
    rw [← hn6] at hsum R6 AP O6 ⊢
    clear hh hF hS hr5 hr6 hap ho5 ho6 hbl hn5 hn6
    by_cases hlt : k < l0.length ∧ k < 60
    · obtain ⟨hl, h60⟩ := hlt
      obtain ⟨ob, off, ha0, hob, hop⟩ := H0.out.at (by intro e; rw [e] at hl; simp at hl)
      subst ha0
      have hc := (B3.out.cell (p := ⟨ob, off + k, none⟩) (by rw [HQ.out]; exact hob)).trans (hop k hl)
      clear hop
      generalize l0.getD k false = x at hc
      have hd60 : decide ((k : Int) < 60) = true := by simp; omega
      have hf1 : F.length = n5 := by rw [HN5.out]; have := congrArg List.length HF.out; simpa [ints] using this
      have hs1 : S.length = n6 := by rw [HN6.out]; have := congrArg List.length HSS.out; simpa [ints] using this
      have hq3 : q ≤ wr.heap.size := by have := B3.out.size; rw [HQ.out]; exact this
      cases x with
      | true =>
        go_wp2_with fail
        refine (fastI_room H3.out (k : Int) (by omega)).mono ?_
        rintro e x3 ⟨rfl, h4, t4⟩
        have H4 := Lib.hid h4
        have T4 := Lib.hid t4
        clear h4 t4
        have tA : Turn [c1] wr (x3.alloc (.cells #[.int .i64 (k : Int)] 3 (0, 0))) := T4.out.trans (Turn.alloc [] x3 _) (by simp)
        have n5w : ∀ g, (Value.slice ao5 n5 cp5).ownBlock = some g → q ≤ g ∧ g < wr.heap.size ∧ b ≠ g ∧ c1 ≠ g ∧ c2 ≠ g := by
          intro g hg
          obtain ⟨hB, cur, hcur⟩ := Rw.blk (xs := fs) (by unfold Rw; rw [← HN5.out]; exact R5.out) hg
          exact ⟨hB, lt_of_heap hcur, H3.out.row_ne hcur⟩
        have n6w : ∀ g, (Value.slice ao6 n6 cp6).ownBlock = some g → q ≤ g ∧ g < wr.heap.size ∧ b ≠ g ∧ c1 ≠ g ∧ c2 ≠ g := by
          intro g hg
          obtain ⟨hB, cur, hcur⟩ := Rw.blk (xs := ss) (by unfold Rw; rw [← HN6.out]; exact R6.out) hg
          exact ⟨hB, lt_of_heap hcur, H3.out.row_ne hcur⟩
        have N5 := Lib.hid n5w
        have N6 := Lib.hid n6w
        have R5a := Lib.hid (ownsRow_turn R5.out tA (fun g hg => by simpa using (N5.out g hg).2.2.2.1.symm))
        have R6a := Lib.hid (ownsRow_turn R6.out tA (fun g hg => by simpa using (N6.out g hg).2.2.2.1.symm))
        have TA := Lib.hid tA
        have hsz := T4.out.size
        have hca : (x3.alloc (.cells #[.int .i64 (k : Int)] 3 (0, 0))).cell? ⟨x3.heap.size, 0, none⟩ = some (.int .i64 (k : Int)) := by
          rw [cell_of_row _ x3.heap.size 0 _ _ _ (heap_alloc_new x3 _)]
          rfl
        clear tA n5w n6w
        go_wp2_with (at_builtin; refine append_row rfl (.tmp 35) (.tmp 37) rfl q _ n5 fs rfl R5a.out x3.heap.size 1 (k : Int) rfl hca (by omega) (by simp; omega) ?_)
        intro v7 w7 hown hg hat
        have W5 := Lib.hid hown
        have W6 := Lib.hid (kept_apart R6a.out hg AP.out)
        have AP7 := Lib.hid (apart_grow AP.out hat (fun g hg => by have h1 := (N6.out g hg).2.1; simp; omega))
        have H4a := H4.out.turn (Turn.alloc [] x3 (.cells #[.int .i64 (k : Int)] 3 (0, 0))) (by simp) (by simp) (by simp) (by simp)
        have off1 := O5.out.fast (k := wr.heap.size) (x := .int .i64 (k : Int)) (fun g hg => (N5.out g hg).2.1)
        have H7 := Lib.hid (H4a.grown hg off1 (fun g hg => (N5.out g hg).2.2))
        have OF7 := Lib.hid (And.intro (off1.grow hat (fun p hp => by have h9 := (H4a.pts p hp).2.2.2; simpa using h9)) (O6.out.fast (x := .int .i64 (k : Int)) (fun g hg => (N6.out g hg).2.1)))
        have B7 := Lib.hid ((B3.out.trans (TA.out.below (by have := BD.out; simp; omega) hq3)).trans (grown_below hg (fun g hg => (N5.out g hg).1) (by simp; omega)))
        clear hown hg hat H4a off1 hca
        go_wp2
        go_roundw
        case rel => exact ⟨k + 1, F ++ [(wr.heap.size, .int .i64 (k : Int))], S, fs ++ [(k : Int)], ss, by omega, by omega, by go_num, ⟨H7.out, snd_snoc HF.out, HSS.out⟩, ⟨by unfold Rw; rw [List.length_append, List.length_singleton, ← HN5.out]; exact W5.out, by unfold Rw; rw [← HN6.out]; exact W6.out, by rw [List.length_append, List.length_singleton, ← HN5.out, ← HN6.out]; omega⟩, AP7.out, OF7.out, B7.out⟩
        case measure => simp [intOf]; omega
      | false =>
        go_wp2_with fail
        refine (slowI_room H3.out (k : Int) (by omega)).mono ?_
        rintro e x3 ⟨rfl, h4, t4⟩
        have H4 := Lib.hid h4
        have T4 := Lib.hid t4
        clear h4 t4
        have tA : Turn [c2] wr (x3.alloc (.cells #[.int .i64 (k : Int)] 3 (0, 0))) := T4.out.trans (Turn.alloc [] x3 _) (by simp)
        have n5w : ∀ g, (Value.slice ao5 n5 cp5).ownBlock = some g → q ≤ g ∧ g < wr.heap.size ∧ b ≠ g ∧ c1 ≠ g ∧ c2 ≠ g := by
          intro g hg
          obtain ⟨hB, cur, hcur⟩ := Rw.blk (xs := fs) (by unfold Rw; rw [← HN5.out]; exact R5.out) hg
          exact ⟨hB, lt_of_heap hcur, H3.out.row_ne hcur⟩
        have n6w : ∀ g, (Value.slice ao6 n6 cp6).ownBlock = some g → q ≤ g ∧ g < wr.heap.size ∧ b ≠ g ∧ c1 ≠ g ∧ c2 ≠ g := by
          intro g hg
          obtain ⟨hB, cur, hcur⟩ := Rw.blk (xs := ss) (by unfold Rw; rw [← HN6.out]; exact R6.out) hg
          exact ⟨hB, lt_of_heap hcur, H3.out.row_ne hcur⟩
        have N5 := Lib.hid n5w
        have N6 := Lib.hid n6w
        have R5a := Lib.hid (ownsRow_turn R5.out tA (fun g hg => by simpa using (N5.out g hg).2.2.2.2.symm))
        have R6a := Lib.hid (ownsRow_turn R6.out tA (fun g hg => by simpa using (N6.out g hg).2.2.2.2.symm))
        have TA := Lib.hid tA
        have hsz := T4.out.size
        have hca : (x3.alloc (.cells #[.int .i64 (k : Int)] 3 (0, 0))).cell? ⟨x3.heap.size, 0, none⟩ = some (.int .i64 (k : Int)) := by
          rw [cell_of_row _ x3.heap.size 0 _ _ _ (heap_alloc_new x3 _)]
          rfl
        clear tA n5w n6w
        go_wp2_with (at_builtin; refine append_row rfl (.tmp 42) (.tmp 44) rfl q _ n6 ss rfl R6a.out x3.heap.size 1 (k : Int) rfl hca (by omega) (by simp; omega) ?_)
        intro v7 w7 hown hg hat
        have W6 := Lib.hid hown
        have W5 := Lib.hid (kept_apart R5a.out hg (fun g h1 h2 => AP.out g h2 h1))
        have AP7 := Lib.hid (fun g hg e => apart_grow (fun g' h1 h2 => AP.out g' h2 h1) hat (fun g' h1 => by have h2 := (N5.out g' h1).2.1; simp; omega) g e hg)
        have H4a := H4.out.turn (Turn.alloc [] x3 (.cells #[.int .i64 (k : Int)] 3 (0, 0))) (by simp) (by simp) (by simp) (by simp)
        have off1 := O6.out.slow (k := wr.heap.size) (x := .int .i64 (k : Int)) (fun g hg => (N6.out g hg).2.1)
        have H7 := Lib.hid (H4a.grown hg off1 (fun g hg => (N6.out g hg).2.2))
        have OF7 := Lib.hid (And.intro (O5.out.slow (x := .int .i64 (k : Int)) (fun g hg => (N5.out g hg).2.1)) (off1.grow hat (fun p hp => by have h9 := (H4a.pts p hp).2.2.2; simpa using h9)))
        have B7 := Lib.hid ((B3.out.trans (TA.out.below (by have := BD.out; simp; omega) hq3)).trans (grown_below hg (fun g hg => (N6.out g hg).1) (by simp; omega)))
        clear hown hg hat H4a off1 hca
        go_wp2
        go_roundw
        case rel => exact ⟨k + 1, F, S ++ [(wr.heap.size, .int .i64 (k : Int))], fs, ss ++ [(k : Int)], by omega, by omega, by go_num, ⟨H7.out, HF.out, snd_snoc HSS.out⟩, ⟨by unfold Rw; rw [← HN5.out]; exact W5.out, by unfold Rw; rw [List.length_append, List.length_singleton, ← HN6.out]; exact W6.out, by rw [List.length_append, List.length_singleton, ← HN5.out, ← HN6.out]; omega⟩, AP7.out, OF7.out, B7.out⟩
        case measure => simp [intOf]; omega
    · have hq3 : q ≤ wr.heap.size := by have := B3.out.size; rw [HQ.out]; exact this
      by_cases hl : k < l0.length
      · have hd60 : decide ((k : Int) < 60) = false := by simp; omega
        have off5 := O5.out
        have n5w : ∀ g, (Value.slice ao5 n5 cp5).ownBlock = some g → q ≤ g ∧ g < wr.heap.size ∧ b ≠ g ∧ c1 ≠ g ∧ c2 ≠ g := by
          intro g hg
          obtain ⟨hB, cur, hcur⟩ := Rw.blk (xs := fs) (by unfold Rw; rw [← HN5.out]; exact R5.out) hg
          exact ⟨hB, lt_of_heap hcur, H3.out.row_ne hcur⟩
        have N5 := Lib.hid n5w
        have R5b : Hid (Rw wr q (.slice ao5 n5 cp5) fs) := Lib.hid (by unfold Rw; rw [← HN5.out]; exact R5.out)
        have R6b : Hid (Rw wr q (.slice ao6 n6 cp6) ss) := Lib.hid (by unfold Rw; rw [← HN6.out]; exact R6.out)
        have O5b := Lib.hid off5
        clear off5 n5w
        go_wp2_with (at_builtin; refine append_rows rfl (.tmp 46) (.tmp 47) rfl q _ fs rfl R5b.out _ ss rfl R6b.out (by have := HN5.out; omega) (by have := HN6.out; omega) hq3 ?_)
        intro v8 w8 hown hg
        have H8 := Lib.hid (H3.out.grown hg O5b.out (fun g hg => (N5.out g hg).2.2))
        have B8 := Lib.hid (B3.out.trans (grown_below hg (fun g hg => (N5.out g hg).1) hq3))
        obtain ⟨L, hL⟩ : ∃ L, L = fs ++ ss := ⟨_, rfl⟩
        rw [← hL] at hown
        have HFS : Hid (F.map Prod.snd ++ S.map Prod.snd = ints (L.drop 0)) := Lib.hid (by rw [HF.out, HSS.out, hL]; simp [ints])
        obtain ⟨ao8, cp8, rfl⟩ := Rw.slice hown
        unfold Rw at hown
        obtain ⟨N, hN⟩ : ∃ N, N = L.length := ⟨_, rfl⟩
        rw [← hN] at hown ⊢
        have hN60 : N ≤ 60 := by rw [hN, hL, List.length_append, ← HN5.out, ← HN6.out]; omega
        have HNN := Lib.hid hN
        have R8 := Lib.hid hown
        clear hown hg hL hN
        go_wp2_with fail
        go_loopw [9] (fun i wx => ∃ (j : Nat) (F' S' : List (Nat × Value)), j ≤ N ∧ i = .int .i64 j ∧ HI wx b c1 c2 64 F' S' 0 ∧ F'.map Prod.snd ++ S'.map Prod.snd = ints (L.drop j) ∧ wx.ownsRow q 3 1 (.slice ao8 N cp8) N (ints L) ∧ Below q w wx) (fun i _ => N - (intOf i).toNat)
        case atStart => exact ⟨0, F, S, by omega, rfl, H8.out, HFS.out, R8.out, B8.out⟩
        case round =>
          clear H8 HFS R8 B8 H3 R5 R6 R5b R6b B3 O5 O6 AP O5b HF HSS
          obtain ⟨j, F', S', hj, rfl, hh, hfs, hrow, hbl⟩ := hrel
          have H5 := Lib.hid hh
          have R8 := Lib.hid hrow
          have B5 := Lib.hid hbl
          clear hh hbl
          by_cases hjn : j < N
          · obtain ⟨-, ⟨he, h0⟩ | ⟨g, cap, cur, he, hB, hgg, -⟩⟩ := hrow
            · exact absurd h0 (by omega)
            injection he with he1 he2 he3
            subst he1 he3
            rcases F' with _ | ⟨⟨kk, v⟩, F'⟩
            · rcases S' with _ | ⟨⟨kk, v⟩, S'⟩
              · have := congrArg List.length hfs
                simp [ints] at this
                have := HNN.out
                omega
              simp only [List.map_nil, List.nil_append, List.map_cons] at hfs
              obtain ⟨x, rfl, hx, hrest, -⟩ := ints_take hfs
              clear hfs
              go_wp2_with fail
              refine (takI_slow H5.out).mono ?_
              rintro e x9 ⟨rfl, h6, t6⟩
              have R9 := ownsRow_turn R8.out t6 (fun g' hg' => by cases hg'; simpa using (H5.out.row_ne hgg).2.2.symm)
              have hcell : x9.cell? ⟨g, 0 + j, none⟩ = some (.int .i64 x) := by
                have := World.ownsRow.cells (g := g) R9 rfl j (.int .i64 x) (by simp [ints, hx])
                simpa only [Addr.add_lit] using this
              rw [Nat.zero_add] at hcell
              have H6 := Lib.hid h6
              have R9' := Lib.hid R9
              have B9 := Lib.hid (B5.out.trans (t6.below (by have := BD.out; simp; omega) (by have := B5.out.size; have := HQ.out; omega)))
              clear h6 t6 R9
              go_wp2
              go_roundw
              case rel => exact ⟨j + 1, _, _, by omega, by go_num, H6.out, by simpa using hrest, R9'.out, B9.out⟩
              case measure => simp [intOf]; omega
            · simp only [List.map_cons, List.cons_append] at hfs
              obtain ⟨x, rfl, hx, hrest, -⟩ := ints_take hfs
              clear hfs
              go_wp2_with fail
              refine (takI_fast H5.out).mono ?_
              rintro e x9 ⟨rfl, h6, t6⟩
              have R9 := ownsRow_turn R8.out t6 (fun g' hg' => by cases hg'; simpa using (H5.out.row_ne hgg).2.1.symm)
              have hcell : x9.cell? ⟨g, 0 + j, none⟩ = some (.int .i64 x) := by
                have := World.ownsRow.cells (g := g) R9 rfl j (.int .i64 x) (by simp [ints, hx])
                simpa only [Addr.add_lit] using this
              rw [Nat.zero_add] at hcell
              have H6 := Lib.hid h6
              have R9' := Lib.hid R9
              have B9 := Lib.hid (B5.out.trans (t6.below (by have := BD.out; simp; omega) (by have := B5.out.size; have := HQ.out; omega)))
              clear h6 t6 R9
              go_wp2
              go_roundw
              case rel => exact ⟨j + 1, _, _, by omega, by go_num, H6.out, by simpa using hrest, R9'.out, B9.out⟩
              case measure => simp [intOf]; omega
          · obtain rfl : j = N := by omega
            have hdrop : L.drop j = [] := by rw [HNN.out]; simp
            rw [hdrop] at hfs
            obtain ⟨hF0, hS0⟩ : F' = [] ∧ S' = [] := by simpa [ints] using hfs
            subst hF0 hS0
            clear hfs hrow hj
            go_wp2_with fail
            refine (takI_none H5.out).mono ?_
            rintro e x9 ⟨rfl, rfl⟩
            go_wp2
            go_ret
            refine ⟨rfl, ?_⟩
            rw [← HQ.out]
            exact B5.out
      · have off5 := O5.out
        have n5w : ∀ g, (Value.slice ao5 n5 cp5).ownBlock = some g → q ≤ g ∧ g < wr.heap.size ∧ b ≠ g ∧ c1 ≠ g ∧ c2 ≠ g := by
          intro g hg
          obtain ⟨hB, cur, hcur⟩ := Rw.blk (xs := fs) (by unfold Rw; rw [← HN5.out]; exact R5.out) hg
          exact ⟨hB, lt_of_heap hcur, H3.out.row_ne hcur⟩
        have N5 := Lib.hid n5w
        have R5b : Hid (Rw wr q (.slice ao5 n5 cp5) fs) := Lib.hid (by unfold Rw; rw [← HN5.out]; exact R5.out)
        have R6b : Hid (Rw wr q (.slice ao6 n6 cp6) ss) := Lib.hid (by unfold Rw; rw [← HN6.out]; exact R6.out)
        have O5b := Lib.hid off5
        clear off5 n5w
        go_wp2_with (at_builtin; refine append_rows rfl (.tmp 46) (.tmp 47) rfl q _ fs rfl R5b.out _ ss rfl R6b.out (by have := HN5.out; omega) (by have := HN6.out; omega) hq3 ?_)
        intro v8 w8 hown hg
        have H8 := Lib.hid (H3.out.grown hg O5b.out (fun g hg => (N5.out g hg).2.2))
        have B8 := Lib.hid (B3.out.trans (grown_below hg (fun g hg => (N5.out g hg).1) hq3))
        obtain ⟨L, hL⟩ : ∃ L, L = fs ++ ss := ⟨_, rfl⟩
        rw [← hL] at hown
        have HFS : Hid (F.map Prod.snd ++ S.map Prod.snd = ints (L.drop 0)) := Lib.hid (by rw [HF.out, HSS.out, hL]; simp [ints])
        obtain ⟨ao8, cp8, rfl⟩ := Rw.slice hown
        unfold Rw at hown
        obtain ⟨N, hN⟩ : ∃ N, N = L.length := ⟨_, rfl⟩
        rw [← hN] at hown ⊢
        have hN60 : N ≤ 60 := by rw [hN, hL, List.length_append, ← HN5.out, ← HN6.out]; omega
        have HNN := Lib.hid hN
        have R8 := Lib.hid hown
        clear hown hg hL hN
        go_wp2_with fail
        go_loopw [9] (fun i wx => ∃ (j : Nat) (F' S' : List (Nat × Value)), j ≤ N ∧ i = .int .i64 j ∧ HI wx b c1 c2 64 F' S' 0 ∧ F'.map Prod.snd ++ S'.map Prod.snd = ints (L.drop j) ∧ wx.ownsRow q 3 1 (.slice ao8 N cp8) N (ints L) ∧ Below q w wx) (fun i _ => N - (intOf i).toNat)
        case atStart => exact ⟨0, F, S, by omega, rfl, H8.out, HFS.out, R8.out, B8.out⟩
        case round =>
          clear H8 HFS R8 B8 H3 R5 R6 R5b R6b B3 O5 O6 AP O5b HF HSS
          obtain ⟨j, F', S', hj, rfl, hh, hfs, hrow, hbl⟩ := hrel
          have H5 := Lib.hid hh
          have R8 := Lib.hid hrow
          have B5 := Lib.hid hbl
          clear hh hbl
          by_cases hjn : j < N
          · obtain ⟨-, ⟨he, h0⟩ | ⟨g, cap, cur, he, hB, hgg, -⟩⟩ := hrow
            · exact absurd h0 (by omega)
            injection he with he1 he2 he3
            subst he1 he3
            rcases F' with _ | ⟨⟨kk, v⟩, F'⟩
            · rcases S' with _ | ⟨⟨kk, v⟩, S'⟩
              · have := congrArg List.length hfs
                simp [ints] at this
                have := HNN.out
                omega
              simp only [List.map_nil, List.nil_append, List.map_cons] at hfs
              obtain ⟨x, rfl, hx, hrest, -⟩ := ints_take hfs
              clear hfs
              go_wp2_with fail
              refine (takI_slow H5.out).mono ?_
              rintro e x9 ⟨rfl, h6, t6⟩
              have R9 := ownsRow_turn R8.out t6 (fun g' hg' => by cases hg'; simpa using (H5.out.row_ne hgg).2.2.symm)
              have hcell : x9.cell? ⟨g, 0 + j, none⟩ = some (.int .i64 x) := by
                have := World.ownsRow.cells (g := g) R9 rfl j (.int .i64 x) (by simp [ints, hx])
                simpa only [Addr.add_lit] using this
              rw [Nat.zero_add] at hcell
              have H6 := Lib.hid h6
              have R9' := Lib.hid R9
              have B9 := Lib.hid (B5.out.trans (t6.below (by have := BD.out; simp; omega) (by have := B5.out.size; have := HQ.out; omega)))
              clear h6 t6 R9
              go_wp2
              go_roundw
              case rel => exact ⟨j + 1, _, _, by omega, by go_num, H6.out, by simpa using hrest, R9'.out, B9.out⟩
              case measure => simp [intOf]; omega
            · simp only [List.map_cons, List.cons_append] at hfs
              obtain ⟨x, rfl, hx, hrest, -⟩ := ints_take hfs
              clear hfs
              go_wp2_with fail
              refine (takI_fast H5.out).mono ?_
              rintro e x9 ⟨rfl, h6, t6⟩
              have R9 := ownsRow_turn R8.out t6 (fun g' hg' => by cases hg'; simpa using (H5.out.row_ne hgg).2.1.symm)
              have hcell : x9.cell? ⟨g, 0 + j, none⟩ = some (.int .i64 x) := by
                have := World.ownsRow.cells (g := g) R9 rfl j (.int .i64 x) (by simp [ints, hx])
                simpa only [Addr.add_lit] using this
              rw [Nat.zero_add] at hcell
              have H6 := Lib.hid h6
              have R9' := Lib.hid R9
              have B9 := Lib.hid (B5.out.trans (t6.below (by have := BD.out; simp; omega) (by have := B5.out.size; have := HQ.out; omega)))
              clear h6 t6 R9
              go_wp2
              go_roundw
              case rel => exact ⟨j + 1, _, _, by omega, by go_num, H6.out, by simpa using hrest, R9'.out, B9.out⟩
              case measure => simp [intOf]; omega
          · obtain rfl : j = N := by omega
            have hdrop : L.drop j = [] := by rw [HNN.out]; simp
            rw [hdrop] at hfs
            obtain ⟨hF0, hS0⟩ : F' = [] ∧ S' = [] := by simpa [ints] using hfs
            subst hF0 hS0
            clear hfs hrow hj
            go_wp2_with fail
            refine (takI_none H5.out).mono ?_
            rintro e x9 ⟨rfl, rfl⟩
            go_wp2
            go_ret
            refine ⟨rfl, ?_⟩
            rw [← HQ.out]
            exact B5.out

end Go.Proofs.Ytijpfahiedggmaa
