/-
  The walk of the law RecParts.
-/
import Derived.Test.YtanjbbmgpodbgaaKindTurnWalk
namespace Go.Proofs.Ytanjbbmgpodbgaa
open Go.RowKit

/-- A row grows that lies in a box. -/
theorem box_row {w0 wr x5 : World} {q : Nat} {cs : Array Value} {v v5 : Option Nat} {o : Obj} (b : wr.heap[q]? = some (.cells cs 38)) (T : Turn [] w0 wr) (hv : ∀ k, v = some k → w0.heap.size ≤ k ∧ k ≠ q) (g : (wr.alloc o).grownBy x5 v)
    (l5 : v5 = v ∨ v5 = some (wr.alloc o).heap.size) : x5.heap[q]? = some (.cells cs 38) ∧ Turn [] w0 x5 ∧ ∀ k, v5 = some k → w0.heap.size ≤ k ∧ k ≠ q := by
  have hq := lt_of_heap b
  have tg : Turn v.toList (wr.alloc o) x5 := Turn.grown g (fun k hk => .inl (by simp [hk]))
  have ta : Turn v.toList wr x5 := (Turn.alloc _ wr o).trans tg (fun i hi => .inl hi)
  have hs : (wr.alloc o).heap.size = wr.heap.size + 1 := by simp
  refine ⟨ta.heap b (fun hm => (hv q (by simpa using hm)).2 rfl), T.trans ta (fun i hi => .inr (hv i (by simpa using hi)).1), fun k hk => ?_⟩
  rcases l5 with e | e
  · exact hv k (e.symm.trans hk)
  · rw [e] at hk
    injection hk with hk
    have := T.size
    omega

theorem cell_at8 {w : World} {q i : Nat} {cs : Array Value} {t : TypeId} {v : Value} (h : w.heap[q]? = some (.cells cs t)) (hv : cs[i]? = some v) : w.cell? ⟨q, i, none⟩ = some v := by
  rw [cell_of_row _ _ _ _ _ _ h]
  exact hv

/-- 1, 2, .. -/
def upTo (n : Nat) : List Int := (List.range n).map (fun i : Nat => (i : Int) + 1)

theorem upTo_next (n : Nat) : upTo (n + 1) = upTo n ++ [(n : Int) + 1] := by
  unfold upTo
  rw [List.range_succ, List.map_append]
  rfl

theorem upTo_len (n : Nat) : (upTo n).length = n := by simp [upTo]

def thePut : ByteArray × ByteArray := (⟨#[113]⟩, ⟨#[98, 111, 100, 121]⟩)

theorem colls : ∀ n : Nat, n ≤ 9 → recB ⟨6, 34359738369, 0, false, upTo n, []⟩ = decide (1 ≤ n ∧ n ≤ 7) := by decide +kernel

theorem preps : ∀ n : Nat, n ≤ 12 → recB ⟨4, 4294967297, 0, false, [], List.replicate n thePut⟩ = decide (n ≤ 10) ∧ recB ⟨7, 4294967297, 0, false, [], List.replicate n thePut⟩ = decide (n ≤ 10) := by decide +kernel

theorem upTo_ok (n : Nat) (h : n ≤ 9) : ∀ x ∈ upTo n, -9223372036854775808 ≤ x ∧ x ≤ 9223372036854775807 := by
  intro x hx
  obtain ⟨i, hi, rfl⟩ := List.mem_map.1 hx
  have := List.mem_range.1 hi
  omega

theorem rep_ok (n : Nat) : ∀ i, i < (List.replicate n thePut).length → ((List.replicate n thePut).getD i putNone).1.size ≤ 9223372036854775807 ∧ ((List.replicate n thePut).getD i putNone).2.size ≤ 9223372036854775807 := by
  intro i hi
  have hi' : i < n := by simpa using hi
  have e : (List.replicate n thePut).getD i putNone = thePut := by simp [List.getD, hi']
  rw [e]
  decide +kernel

set_option maxHeartbeats 4000000 in
set_option maxRecDepth 100000 in
theorem recParts_nat (F : RecFace) (n m : Nat) (hn : n ≤ 9) (hm : m ≤ 12) (y : Bool) (w : World) :
    Calls Try.prog 13 #[.int .i64 (n : Int), .int .i64 (m : Int), .bool y] w fun e w' => e = .returned (.bool true) ∧ Below w.heap.size w w' := by
  have H1 := Lib.hid (colls n hn)
  have hp2 := preps m hm
  have HU := Lib.hid (upTo_ok n hn)
  have hr2 := rep_ok m
  have hpc : thePut.1 = ⟨#[113]⟩ ∧ thePut.2 = ⟨#[98, 111, 100, 121]⟩ := ⟨rfl, rfl⟩
  generalize thePut = p at hp2 hr2 hpc
  have H2 := Lib.hid hp2
  have HR := Lib.hid hr2
  have HPC := Lib.hid hpc
  clear hp2 hr2 hpc
  have n9 : (n : Int) ≤ 9 := by omega
  have m12 : (m : Int) ≤ 12 := by omega
  have n0 : ¬ ((n : Int) < 0) := by omega
  have m0 : ¬ ((m : Int) < 0) := by omega
  go_enter Try.func13, Try.ntmps13
  go_wp2_with fail
  refine (begun8_calls F _).mono ?_
  rintro e w1 ⟨rfl, t1⟩
  have T1 := Lib.hid t1
  clear t1
  go_wp2_with fail
  obtain ⟨q, hq⟩ : ∃ q, q = w1.heap.size := ⟨_, rfl⟩
  have b2 := heap_alloc_new w1 (.cells #[.int .i64 6, .int .i64 34359738369, .int .i64 0, .bool false, .slice none 0 0, .slice none 0 0] 38)
  have B2 := Lib.hid b2
  have T2 := Lib.hid (Turn.alloc [] w1 (.cells #[.int .i64 6, .int .i64 34359738369, .int .i64 0, .bool false, .slice none 0 0, .slice none 0 0] 38))
  rw [← hq] at B2 ⊢
  have HQ := Lib.hid hq
  clear b2 hq
  go_loopw [9] (fun i wr => ∃ (k : Nat) (a : Option Addr) (c : Nat), k ≤ n ∧ i = .int .i64 ((k : Int) + 1) ∧ wr.heap[q]? = some (.cells #[.int .i64 6, .int .i64 34359738369, .int .i64 0, .bool false, .slice a k c, .slice none 0 0] 38) ∧
    wr.ownsRow 0 3 1 (.slice a k c) k (i64s (upTo k)) ∧ (∀ g, (Value.slice a k c).ownBlock = some g → w1.heap.size ≤ g ∧ g ≠ q) ∧ Turn [] w1 wr) (fun i _ => n + 1 - (intOf i).toNat)
  case atStart => exact ⟨0, none, 0, by omega, rfl, B2.out, World.ownsRow_nil _ _ _ _, (by intro g hg; cases hg), T2.out⟩
  case round =>
    obtain ⟨k, a, c, hk, rfl, hb, ho, hl, ht⟩ := hrel
    have HB := Lib.hid hb
    have HO := Lib.hid ho
    have HL := Lib.hid hl
    have HT := Lib.hid ht
    clear hb ho hl ht
    by_cases hkn : k < n
    · have r1 : (k : Int) + 1 ≤ (n : Int) := by omega
      obtain ⟨c0, c1, c2, c3, c4, c5⟩ := six_of HB.out
      have hlen : (upTo k).length + 1 ≤ 1000000 := by rw [upTo_len]; omega
      have HO2 : Hid (wr.ownsRow 0 3 1 (.slice a k c) (upTo k).length (i64s (upTo k))) := Lib.hid (by rw [upTo_len]; exact HO.out)
      clear HO
      go_wp2_with
        (at_builtin
         (refine append_ints rfl (.tmp 36) (.tmp 38) rfl (.slice a k c) (upTo k) rfl (ownsRow_turn HO2.out (Turn.alloc [] wr _) (fun _ _ => by simp)) (some ⟨wr.heap.size, 0, none⟩) 1 1 [(k : Int) + 1] rfl rfl (Sr.new wr _ _) (by simpa using hlen) ?_)
         intro v5 x5 o5 g5 l5
         obtain ⟨b5, t5, l5⟩ := box_row HB.out HT.out HL.out g5 l5
         rw [← upTo_next, upTo_len] at o5
         obtain ⟨a5, c5', hv, -⟩ := row_form (l := upTo (k + 1)) (by rw [upTo_len]; exact o5)
         rw [upTo_len] at hv
         subst hv
         obtain ⟨d0, d1, d2, d3, d4, d5⟩ := six_of b5
         have fr : ∀ j, x5.frozen? ⟨q, j, none⟩ = false := fun j => unfrozen_of b5
         have B5 := Lib.hid b5
         have O5 := Lib.hid o5
         have T5 := Lib.hid t5
         have L5 := Lib.hid l5
         clear b5 o5 t5 l5 g5 c0 c1 c2 c3 c4 c5)
      have ts := Turn.setCell (l := [q]) (b := q) (i := 4) x5 (by simp) (.slice a5 (k + 1) c5')
      have TS := Lib.hid ts
      clear ts
      go_roundw
      case rel => exact ⟨k + 1, a5, c5', by omega, by go_num, block_set B5.out _, ownsRow_turn O5.out TS.out (fun g hg hm => by have := (L5.out g hg).2; simp at hm; omega), L5.out, T5.out.trans TS.out (fun i hi => .inr (by have := HQ.out; simp at hi; omega))⟩
      case measure => simp [intOf]; omega
    · obtain rfl : k = n := by omega
      clear hkn hk
      have r1 : ¬ ((k : Int) + 1 ≤ (k : Int)) := by omega
      clear r1
      obtain ⟨wa, hwa⟩ : ∃ x, x = wr := ⟨_, rfl⟩
      rw [← hwa] at HB HO HT ⊢
      clear hwa
      have HBA0 := HB
      have HTA := HT
      have HO2 : Hid (wa.ownsRow 0 3 1 (.slice a (upTo k).length c) (upTo k).length (i64s (upTo k))) := Lib.hid (by rw [upTo_len]; exact HO.out)
      clear HB HO HL HT
      go_wp2_with fail
      obtain ⟨q2, hq2⟩ : ∃ q2, q2 = wa.heap.size := ⟨_, rfl⟩
      have b2 := heap_alloc_new wa (.cells #[.int .i64 4, .int .i64 4294967297, .int .i64 0, .bool false, .slice none 0 0, .slice none 0 0] 38)
      have B3 := Lib.hid b2
      have T3 := Lib.hid (Turn.alloc [] wa (.cells #[.int .i64 4, .int .i64 4294967297, .int .i64 0, .bool false, .slice none 0 0, .slice none 0 0] 38))
      rw [← hq2] at B3 ⊢
      have HQ2 := Lib.hid hq2
      clear b2 hq2
      go_loopw [11] (fun i wr => ∃ (j : Nat) (a : Option Addr) (c : Nat), j ≤ m ∧ i = .int .i64 (j : Int) ∧ wr.heap[q2]? = some (.cells #[.int .i64 4, .int .i64 4294967297, .int .i64 0, .bool false, .slice none 0 0, .slice a j c] 38) ∧
        wr.ownsRow 0 29 2 (.slice a j c) j (pcells (List.replicate j p)) ∧ (∀ g, (Value.slice a j c).ownBlock = some g → wa.heap.size ≤ g ∧ g ≠ q2) ∧ Turn [] wa wr) (fun i _ => m - (intOf i).toNat)
      case atStart => exact ⟨0, none, 0, by omega, rfl, B3.out, World.ownsRow_nil _ _ _ _, (by intro g hg; cases hg), T3.out⟩
      case round =>
        obtain ⟨j, a2, c2, hj, rfl, hb, ho, hl, ht⟩ := hrel
        have HB2 := Lib.hid hb
        have HO3 : Hid (wr.ownsRow 0 29 2 (.slice a2 (List.replicate j p).length c2) (List.replicate j p).length (pcells (List.replicate j p))) := Lib.hid (by rw [List.length_replicate]; exact ho)
        have HL2 := Lib.hid hl
        have HT2 := Lib.hid ht
        clear hb ho hl ht
        by_cases hjm : j < m
        · have r1 : (j : Int) < (m : Int) := by omega
          obtain ⟨c0, c1, c2', c3, c4, c5⟩ := six_of HB2.out
          have hlen : (List.replicate j p).length ≤ 1000000 := by rw [List.length_replicate]; omega
          have SR : Hid (∀ t, (wr.alloc (.cells #[.string ⟨#[113]⟩, .string ⟨#[98, 111, 100, 121]⟩] t)).cell? ⟨wr.heap.size, 0, none⟩ = some (.string p.1) ∧ (wr.alloc (.cells #[.string ⟨#[113]⟩, .string ⟨#[98, 111, 100, 121]⟩] t)).cell? ⟨wr.heap.size, 1, none⟩ = some (.string p.2)) := Lib.hid (fun t => by rw [HPC.out.1, HPC.out.2]; exact cell_new2 wr _ _ t)
          have HO4 := HO3
          rw [List.length_replicate] at HO4
          go_wp2_with
            (at_builtin
             (refine append_put rfl (.tmp 48) (.tmp 50) rfl (.slice a2 j c2) (List.replicate j p) rfl (ownsRow_turn (by rw [List.length_replicate]; exact HO4.out) (Turn.alloc [] wr _) (fun _ _ => by simp)) wr.heap.size p rfl (SR.out _).1 (SR.out _).2 hlen ?_)
             intro v5 x5 o5 g5 l5
             obtain ⟨b5, t5, l5⟩ := box_row HB2.out HT2.out HL2.out g5 l5
             rw [← List.replicate_succ'] at o5
             obtain ⟨a5, c5', hv⟩ := put_form o5
             rw [List.length_replicate] at hv o5
             subst hv
             obtain ⟨d0, d1, d2, d3, d4, d5⟩ := six_of b5
             have fr : ∀ j, x5.frozen? ⟨q2, j, none⟩ = false := fun j => unfrozen_of b5
             have B5 := Lib.hid b5
             have O5 := Lib.hid o5
             have T5 := Lib.hid t5
             have L5 := Lib.hid l5
             clear b5 o5 t5 l5 g5 c0 c1 c2' c3 c4 c5)
          have ts := Turn.setCell (l := [q2]) (b := q2) (i := 5) x5 (by simp) (.slice a5 (j + 1) c5')
          have TS := Lib.hid ts
          clear ts
          go_roundw
          case rel => exact ⟨j + 1, a5, c5', by omega, by go_num, block_set B5.out _, ownsRow_turn O5.out TS.out (fun g hg hm => by have := (L5.out g hg).2; simp at hm; omega), L5.out, T5.out.trans TS.out (fun i hi => .inr (by have := HQ2.out; simp at hi; omega))⟩
          case measure => simp [intOf]; omega
        · obtain rfl : j = m := by omega
          clear hjm hj
          obtain ⟨r1, hr1⟩ : ∃ r, r = decide (1 ≤ k ∧ k ≤ 7) := ⟨_, rfl⟩
          obtain ⟨r2, hr2⟩ : ∃ r, r = decide (j ≤ 10) := ⟨_, rfl⟩
          have P1 : Hid (r1 = true ↔ 1 ≤ k ∧ k ≤ 7) := Lib.hid (by rw [hr1]; simp)
          have P2 : Hid (r2 = true ↔ j ≤ 10) := Lib.hid (by rw [hr2]; simp)
          have HR1 := H1
          have HR2 := H2
          rw [← hr1] at HR1
          rw [← hr2] at HR2
          clear hr1 hr2
          cases y with
          | false =>
            obtain ⟨wf, hwf⟩ : ∃ wf, wf = wr := ⟨_, rfl⟩
            have BF : Hid (wf.heap[q2]? = some (.cells #[.int .i64 4, .int .i64 4294967297, .int .i64 0, .bool false, .slice none 0 0, .slice a2 j c2] 38)) := Lib.hid (by rw [hwf]; exact HB2.out)
            have TF : Hid (Turn [] wa wf) := Lib.hid (by rw [hwf]; exact HT2.out)
            have OF := HO3
            rw [← hwf] at OF
            have CA : Hid (∀ wx, Turn [] wf wx → Calls Try.prog 35 #[.agg #[.int .i64 6, .int .i64 34359738369, .int .i64 0, .bool false, .slice a k c, .slice none 0 0]] wx fun e w' => ∃ a n c, e = .returned (.slice a n c) ∧ a.isNone = (!r1) ∧ Turn [] wx w') := Lib.hid (fun wx tx => by
              have := enc_is F ⟨6, 34359738369, 0, false, upTo k, []⟩ (w := wx) (ap := a) (cp := c) (aq := none) (cq := 0) (own_il (ownsRow_turn HO2.out (TF.out.trans tx (by simp)) (by simp)) HU.out) (.inl ⟨rfl, rfl, rfl⟩) (by unfold RecV.fit okI; dsimp only; omega)
              rw [HR1.out] at this
              unfold RecV.cells at this
              dsimp only at this
              rw [upTo_len, List.length_nil] at this
              exact this)
            have CB : Hid (∀ wx, Turn [] wf wx → Calls Try.prog 35 #[.agg #[.int .i64 4, .int .i64 4294967297, .int .i64 0, .bool false, .slice none 0 0, .slice a2 j c2]] wx fun e w' => ∃ a n c, e = .returned (.slice a n c) ∧ a.isNone = (!r2) ∧ Turn [] wx w') := Lib.hid (fun wx tx => by
              have := enc_is F ⟨4, 4294967297, 0, false, [], List.replicate j p⟩ (w := wx) (ap := none) (cp := 0) (aq := a2) (cq := c2) (.inl ⟨rfl, rfl, rfl⟩) (own_ps (ownsRow_turn OF.out tx (by simp)) HR.out) (by unfold RecV.fit okI; dsimp only; omega)
              rw [HR2.out.1] at this
              unfold RecV.cells at this
              dsimp only at this
              rw [List.length_replicate, List.length_nil] at this
              exact this)
            have HBA := Lib.hid (fun wx (tx : Turn [] wf wx) => (TF.out.trans tx (by simp)).heap HBA0.out (by simp))
            have HBB := Lib.hid (fun wx (tx : Turn [] wf wx) => tx.heap BF.out (by simp))
            obtain ⟨f0, f1, f2, f3, f4, f5⟩ := six_of (HBA.out wf (Turn.refl _ _))
            have TW : Hid (Turn [] w wf) := Lib.hid ((T1.out.trans HTA.out (by simp)).trans TF.out (by simp))
            clear HB2 HT2 HO3 HL2 OF BF TF
            subst hwf
            cases r1 <;> cases r2
            all_goals
              go_wp2_with fail
              skip
              refine (CA.out _ (Turn.refl _ _)).mono ?_
              rintro e w5 ⟨v1, v2, v3, rfl, hv, t5⟩
              have T5 := Lib.hid t5
              have nt := fun wx : World => neq_nil wx v1 v2 v3 hv
              obtain ⟨g0, g1, g2, g3, g4, g5⟩ := six_of (HBB.out w5 t5)
              clear hv t5
              go_wp2_with
                (go_at_call 35; ((with_reducible refine (CB.out _ T5.out).mono ?_); rintro e w6 ⟨u1, u2, u3, rfl, hu, t6⟩; have T6 := Lib.hid (T5.out.trans t6 (by simp)); have nu := (fun wx : World => neq_nil wx u1 u2 u3 hu); clear t6 hu))
            all_goals
              go_ret
            all_goals
              have p1 := P1.out
              have p2 := P2.out
              simp at p1 p2
              refine ⟨ret_bool ?_, ?_⟩
              · first
                  | rfl
                  | (exfalso; omega)
                  | (rw [Bool.eq_iff_iff]; simp; omega)
              · first
                  | exact (TW.out.trans T6.out (by simp)).belowAll
                  | exact (TW.out.trans T5.out (by simp)).belowAll
          | true =>
            have e0 : wr.cell? ⟨q2, 0, none⟩ = some (.int .i64 4) := cell_at8 HB2.out rfl
            have fr : wr.frozen? ⟨q2, 0, none⟩ = false := unfrozen_of HB2.out
            obtain ⟨wf, hwf⟩ : ∃ wf, wf = wr.setCell ⟨q2, 0, none⟩ (.int .i64 7) := ⟨_, rfl⟩
            have ts : Turn [q2] wr wf := by rw [hwf]; exact Turn.setCell wr (by simp) _
            have BF : Hid (wf.heap[q2]? = some (.cells #[.int .i64 7, .int .i64 4294967297, .int .i64 0, .bool false, .slice none 0 0, .slice a2 j c2] 38)) := Lib.hid (by rw [hwf]; exact block_set HB2.out _)
            have TF : Hid (Turn [] wa wf) := Lib.hid (HT2.out.trans ts (fun i hi => .inr (by have := HQ2.out; simp at hi; omega)))
            have OF := Lib.hid (ownsRow_turn HO3.out ts (fun g hg hm => by rw [List.length_replicate] at hg; have := (HL2.out g hg).2; simp at hm; omega))
            have CA : Hid (∀ wx, Turn [] wf wx → Calls Try.prog 35 #[.agg #[.int .i64 6, .int .i64 34359738369, .int .i64 0, .bool false, .slice a k c, .slice none 0 0]] wx fun e w' => ∃ a n c, e = .returned (.slice a n c) ∧ a.isNone = (!r1) ∧ Turn [] wx w') := Lib.hid (fun wx tx => by
              have := enc_is F ⟨6, 34359738369, 0, false, upTo k, []⟩ (w := wx) (ap := a) (cp := c) (aq := none) (cq := 0) (own_il (ownsRow_turn HO2.out (TF.out.trans tx (by simp)) (by simp)) HU.out) (.inl ⟨rfl, rfl, rfl⟩) (by unfold RecV.fit okI; dsimp only; omega)
              rw [HR1.out] at this
              unfold RecV.cells at this
              dsimp only at this
              rw [upTo_len, List.length_nil] at this
              exact this)
            have CB : Hid (∀ wx, Turn [] wf wx → Calls Try.prog 35 #[.agg #[.int .i64 7, .int .i64 4294967297, .int .i64 0, .bool false, .slice none 0 0, .slice a2 j c2]] wx fun e w' => ∃ a n c, e = .returned (.slice a n c) ∧ a.isNone = (!r2) ∧ Turn [] wx w') := Lib.hid (fun wx tx => by
              have := enc_is F ⟨7, 4294967297, 0, false, [], List.replicate j p⟩ (w := wx) (ap := none) (cp := 0) (aq := a2) (cq := c2) (.inl ⟨rfl, rfl, rfl⟩) (own_ps (ownsRow_turn OF.out tx (by simp)) HR.out) (by unfold RecV.fit okI; dsimp only; omega)
              rw [HR2.out.2] at this
              unfold RecV.cells at this
              dsimp only at this
              rw [List.length_replicate, List.length_nil] at this
              exact this)
            have HBA := Lib.hid (fun wx (tx : Turn [] wf wx) => (TF.out.trans tx (by simp)).heap HBA0.out (by simp))
            have HBB := Lib.hid (fun wx (tx : Turn [] wf wx) => tx.heap BF.out (by simp))
            obtain ⟨f0, f1, f2, f3, f4, f5⟩ := six_of (HBA.out wf (Turn.refl _ _))
            have TW : Hid (Turn [] w wf) := Lib.hid ((T1.out.trans HTA.out (by simp)).trans TF.out (by simp))
            clear HB2 HT2 HO3 HL2 OF BF TF
            rw [hwf] at f0 f1 f2 f3 f4 f5
            have HWF := Lib.hid hwf
            clear hwf
            cases r1 <;> cases r2
            all_goals
              go_wp2_with fail
              rw [← HWF.out]
              refine (CA.out _ (Turn.refl _ _)).mono ?_
              rintro e w5 ⟨v1, v2, v3, rfl, hv, t5⟩
              have T5 := Lib.hid t5
              have nt := fun wx : World => neq_nil wx v1 v2 v3 hv
              obtain ⟨g0, g1, g2, g3, g4, g5⟩ := six_of (HBB.out w5 t5)
              clear hv t5
              go_wp2_with
                (go_at_call 35; ((with_reducible refine (CB.out _ T5.out).mono ?_); rintro e w6 ⟨u1, u2, u3, rfl, hu, t6⟩; have T6 := Lib.hid (T5.out.trans t6 (by simp)); have nu := (fun wx : World => neq_nil wx u1 u2 u3 hu); clear t6 hu))
            all_goals
              go_ret
            all_goals
              have p1 := P1.out
              have p2 := P2.out
              simp at p1 p2
              refine ⟨ret_bool ?_, ?_⟩
              · first
                  | rfl
                  | (exfalso; omega)
                  | (rw [Bool.eq_iff_iff]; simp; omega)
              · first
                  | exact (TW.out.trans T6.out (by simp)).belowAll
                  | exact (TW.out.trans T5.out (by simp)).belowAll

set_option maxHeartbeats 4000000 in
set_option maxRecDepth 100000 in
theorem recParts_walk (F : RecFace) (a0 : Int) (_w0 : (Lit.int .i64 a0).wf = true) (a1 : Int) (_w1 : (Lit.int .i64 a1).wf = true) (a2 : Bool) {w : World} :
    Calls Try.prog 13 #[.int .i64 a0, .int .i64 a1, .bool a2] w fun e w' => e = .returned (.bool true) ∧ Below w.heap.size w w' := by
  by_cases h : (0 ≤ a0 ∧ a0 ≤ 9) ∧ (0 ≤ a1 ∧ a1 ≤ 12)
  · have := recParts_nat F a0.toNat a1.toNat (by omega) (by omega) a2 w
    rw [show ((a0.toNat : Nat) : Int) = a0 by omega, show ((a1.toNat : Nat) : Int) = a1 by omega] at this
    exact this
  · clear _w0 _w1
    have C := Lib.hid (fun w => begun8_calls F w)
    rcases (by omega : a0 < 0 ∨ (0 ≤ a0 ∧ 9 < a0) ∨ (0 ≤ a0 ∧ a0 ≤ 9 ∧ a1 < 0) ∨ (0 ≤ a0 ∧ a0 ≤ 9 ∧ 0 ≤ a1 ∧ 12 < a1)) with h | ⟨h, h2⟩ | ⟨h, h2, h3⟩ | ⟨h, h2, h3, h4⟩
    all_goals
      go_enter Try.func13, Try.ntmps13
      go_wp2_with fail
      refine (C.out _).mono ?_
      rintro e x1 ⟨rfl, t1⟩
      have T1 := Lib.hid t1
      clear t1
      go_wp2
      go_ret
      exact ⟨rfl, T1.out.belowAll⟩

end Go.Proofs.Ytanjbbmgpodbgaa
