/-
  Of the texts RecD RecRd RecDec RecEq RecFace Begun13 OpenI13 So, in build order, each as it was built alone.
-/
import Derived.Test.YtjmainefmiefcaaGreatPkAG
import Derived.Test.YtjmainefmiefcaaGreatPkAB
import Derived.Deep.QuietTactic
import Derived.Test.YtjmainefmiefcaaGreatPkAI
import Derived.Test.YtjmainefmiefcaaGreatChecked
import Derived.ProofKit
import Derived.OpenShut
import Derived.Deep.Slices
import Derived.Deep.Grids
import Derived.Test.YtjmainefmiefcaaGreatPkAD

/-
  The walks of rec's readParts and readPuts.
-/
namespace Go.Proofs.YtjmainefmiefcaaGreat
open Go.RowKit

theorem grown_at {w w' : World} {b : Nat} (g : w.grownBy w' (some b)) : Turn [b] w w' := Turn.grown g (fun k hk => .inl (by injection hk with hk; simp [hk]))

theorem InIs.turn {w w' : World} {b : Nat} {l : List UInt8} {bad : Bool} {m : List Nat} (h : InIs w b l bad) (t : Turn m w w') (hm : b ∉ m) : InIs w' b l bad := h.same (t.block b h.lt hm)

/-- A row grows beside an In. -/
theorem row_beside {w wr w3 w5 : World} {o : Obj} {v v5 : Option Nat} {b : Nat} {l : List UInt8} {bad : Bool} (TR : Turn [b] w wr) (T3 : Turn [b] wr w3) (g : (w3.alloc o).grownBy w5 v) (HL : ∀ k, v = some k → w.heap.size ≤ k) (hb : b < w.heap.size) (I3 : InIs w3 b l bad)
    (l5 : v5 = v ∨ v5 = some (w3.alloc o).heap.size) : Turn [b] w w5 ∧ InIs w5 b l bad ∧ ∀ k, v5 = some k → w.heap.size ≤ k := by
  have ha : Turn v.toList (w3.alloc o) w5 := Turn.grown g (fun k hk => .inl (by simp [hk]))
  have hl : ∀ k ∈ v.toList, w.heap.size ≤ k := fun k hk => HL k (by simpa using hk)
  have h3 : Turn [b] w w3 := TR.trans T3 (fun i hi => .inl hi)
  have h4 : Turn [b] w (w3.alloc o) := h3.trans (Turn.alloc [] w3 o) (by simp)
  refine ⟨h4.trans ha (fun i hi => .inr (hl i hi)), (I3.turn (Turn.alloc [] w3 o) (by simp)).turn ha (fun hm => by have := hl b hm; omega), fun k hk => ?_⟩
  rcases l5 with h | h
  · exact HL k (h.symm.trans hk)
  · rw [h] at hk
    injection hk with hk
    have := h4.size
    omega

set_option maxHeartbeats 2000000 in
set_option maxRecDepth 100000 in
theorem readParts_calls (b : Nat) (l : List UInt8) (bad : Bool) (w : World) (h : InIs w b l bad) (X : List Int) (l' : List UInt8) (bad' : Bool) (hX : rdParts (leN (taken l bad 2)) (after l bad 2) (!canTake l bad 2) = (X, l', bad')) :
    Calls Tryz.prog 116 #[.pointer (some ⟨b, 0, none⟩)] w fun e w' => ∃ ao c, e = .returned (.slice ao X.length c) ∧ w'.ownsRow 0 3 1 (.slice ao X.length c) X.length (i64s X) ∧
      (∀ k, (Value.slice ao X.length c).ownBlock = some k → w.heap.size ≤ k) ∧ InIs w' b l' bad' ∧ Turn [b] w w' := by
  have C1 := Lib.hid (small_in b l bad w h)
  have hlt := h.lt
  have hn := small_lt l bad
  obtain ⟨n0, hn0⟩ : ∃ n0, n0 = leN (taken l bad 2) := ⟨_, rfl⟩
  rw [← hn0] at C1 hn hX
  have HX := Lib.hid hX
  have HLT := Lib.hid hlt
  clear h hX hn0 hlt
  go_enter Tryz.func116, Tryz.ntmps116
  go_wp2_with fail
  refine C1.out.mono ?_
  rintro e w1 ⟨rfl, i1, g1⟩
  have I1 := Lib.hid i1
  have T1 := Lib.hid (grown_at g1)
  clear i1 g1 C1
  go_wp2_with fail
  go_loopw [3, 4] (fun v i wr => ∃ (n : Nat) (x : List Int) (lx : List UInt8) (bx : Bool), i = .int .i64 (n : Int) ∧ x.length + n ≤ n0 ∧ wr.ownsRow 0 3 1 v x.length (i64s x) ∧ (∀ g, v.ownBlock = some g → w.heap.size ≤ g) ∧ InIs wr b lx bx ∧
    (x ++ (rdParts n lx bx).1, (rdParts n lx bx).2) = (X, l', bad') ∧ Turn [b] w wr) (fun _ i _ => (intOf i).toNat)
  case atStart => exact ⟨n0, [], _, _, rfl, by simp, World.ownsRow_nil _ _ _ _, (by intro g hg; cases hg), I1.out, by rw [List.nil_append]; exact HX.out, T1.out⟩
  case round =>
    obtain ⟨n, x, lx, bx, rfl, hxn, hown, hlow, hin, hrd, tr⟩ := hrel
    have HO := Lib.hid hown
    have HL := Lib.hid hlow
    have HI := Lib.hid hin
    have TR := Lib.hid tr
    clear hown hlow hin tr
    cases n with
    | zero =>
      have hx : x = X := by
        have := congrArg Prod.fst hrd
        simpa [rdParts] using this
      have hl : (lx, bx) = (l', bad') := by
        have := congrArg Prod.snd hrd
        simpa [rdParts] using this
      injection hl with hl1 hl2
      subst hx hl1 hl2
      obtain ⟨ao, cp, hv, -⟩ := row_form HO.out
      subst hv
      clear hrd
      go_wp2
      go_ret
      exact ⟨ao, cp, rfl, HO.out, HL.out, HI.out, TR.out⟩
    | succ n =>
    cases bx with
    | true =>
      have hx : x = X := by
        have := congrArg Prod.fst hrd
        simpa [rdParts] using this
      have hl : (lx, true) = (l', bad') := by
        have := congrArg Prod.snd hrd
        simpa [rdParts] using this
      injection hl with hl1 hl2
      subst hx hl1 hl2
      obtain ⟨ao, cp, hv, -⟩ := row_form HO.out
      subst hv
      have hpos : (0 : Int) < ((n + 1 : Nat) : Int) := by omega
      clear hrd
      go_wp2_with fail
      refine (bad_calls b lx true _ HI.out).mono ?_
      rintro e w2 ⟨rfl, rfl⟩
      go_wp2
      go_ret
      exact ⟨ao, cp, rfl, HO.out, HL.out, HI.out, TR.out⟩
    | false =>
      unfold rdParts at hrd
      rw [if_neg (by simp)] at hrd
      have hpos : (0 : Int) < ((n + 1 : Nat) : Int) := by omega
      have hlen : x.length + 1 ≤ 1000000 := by omega
      have CS := Lib.hid (small_in b lx false wr HI.out)
      obtain ⟨y, hy⟩ : ∃ y, y = leN (taken lx false 2) := ⟨_, rfl⟩
      obtain ⟨ly, hly⟩ : ∃ ly, ly = after lx false 2 := ⟨_, rfl⟩
      obtain ⟨by_, hby⟩ : ∃ by_, by_ = !canTake lx false 2 := ⟨_, rfl⟩
      rw [← hy, ← hly, ← hby] at CS hrd
      have HR : Hid ((x ++ [(y : Int)] ++ (rdParts n ly by_).1, (rdParts n ly by_).2) = (X, l', bad')) := Lib.hid (by rw [List.append_assoc]; exact hrd)
      clear hrd hy hly hby
      go_wp2_with fail
      refine (bad_calls b lx false _ HI.out).mono ?_
      rintro e w2 ⟨rfl, rfl⟩
      go_wp2_with fail
      refine CS.out.mono ?_
      rintro e w3 ⟨rfl, i3, g3⟩
      have I3 := Lib.hid i3
      have T3 := Lib.hid (grown_at g3)
      have O3 := Lib.hid (ownsRow_turn HO.out T3.out (fun k hk hm => by have := HL.out k hk; have := HLT.out; simp at hm; omega))
      clear i3 g3 CS
      go_wp2_with
        (at_builtin
         (refine append_ints rfl (.tmp 16) (.tmp 19) rfl u3 x rfl (ownsRow_turn O3.out (Turn.alloc [] w3 _) (fun _ _ => by simp)) (some ⟨w3.heap.size, 0, none⟩) 1 1 [(y : Int)] rfl rfl (Sr.new w3 y _) (by simp; omega) ?_)
         intro v5 w5 o5 g5 l5
         have O5 := Lib.hid o5
         have A5 := Lib.hid (row_beside TR.out T3.out g5 HL.out HLT.out I3.out l5)
         clear o5 g5 l5)
      go_roundw
      case rel => exact ⟨n, x ++ [(y : Int)], ly, by_, by go_num, by simp; omega, O5.out, A5.out.2.2, A5.out.2.1, HR.out, A5.out.1⟩
      case measure => simp [intOf]

set_option maxHeartbeats 2000000 in
set_option maxRecDepth 100000 in
theorem readPuts_calls (b : Nat) (l : List UInt8) (bad : Bool) (w : World) (h : InIs w b l bad) (X : List (ByteArray × ByteArray)) (l' : List UInt8) (bad' : Bool) (hX : rdPuts (leN (taken l bad 2)) (after l bad 2) (!canTake l bad 2) = (X, l', bad')) :
    Calls Tryz.prog 117 #[.pointer (some ⟨b, 0, none⟩)] w fun e w' => ∃ ao c, e = .returned (.slice ao X.length c) ∧ w'.ownsRow 0 28 2 (.slice ao X.length c) X.length (pcells X) ∧
      (∀ k, (Value.slice ao X.length c).ownBlock = some k → w.heap.size ≤ k) ∧ InIs w' b l' bad' ∧ Turn [b] w w' := by
  have C1 := Lib.hid (small_in b l bad w h)
  have hlt := h.lt
  have hn := small_lt l bad
  obtain ⟨n0, hn0⟩ : ∃ n0, n0 = leN (taken l bad 2) := ⟨_, rfl⟩
  rw [← hn0] at C1 hn hX
  have HX := Lib.hid hX
  have HLT := Lib.hid hlt
  clear h hX hn0 hlt
  go_enter Tryz.func117, Tryz.ntmps117
  go_wp2_with fail
  refine C1.out.mono ?_
  rintro e w1 ⟨rfl, i1, g1⟩
  have I1 := Lib.hid i1
  have T1 := Lib.hid (grown_at g1)
  clear i1 g1 C1
  go_wp2_with fail
  go_loopw [3, 4] (fun v i wr => ∃ (n : Nat) (x : List (ByteArray × ByteArray)) (lx : List UInt8) (bx : Bool), i = .int .i64 (n : Int) ∧ x.length + n ≤ n0 ∧ wr.ownsRow 0 28 2 v x.length (pcells x) ∧ (∀ g, v.ownBlock = some g → w.heap.size ≤ g) ∧ InIs wr b lx bx ∧
    (x ++ (rdPuts n lx bx).1, (rdPuts n lx bx).2) = (X, l', bad') ∧ Turn [b] w wr) (fun _ i _ => (intOf i).toNat)
  case atStart => exact ⟨n0, [], _, _, rfl, by simp, World.ownsRow_nil _ _ _ _, (by intro g hg; cases hg), I1.out, by rw [List.nil_append]; exact HX.out, T1.out⟩
  case round =>
    obtain ⟨n, x, lx, bx, rfl, hxn, hown, hlow, hin, hrd, tr⟩ := hrel
    have HO := Lib.hid hown
    have HL := Lib.hid hlow
    have HI := Lib.hid hin
    have TR := Lib.hid tr
    clear hown hlow hin tr
    cases n with
    | zero =>
      have hx : x = X := by
        have := congrArg Prod.fst hrd
        simpa [rdPuts] using this
      have hl : (lx, bx) = (l', bad') := by
        have := congrArg Prod.snd hrd
        simpa [rdPuts] using this
      injection hl with hl1 hl2
      subst hx hl1 hl2
      obtain ⟨ao, cp, hv⟩ := put_form HO.out
      subst hv
      clear hrd
      go_wp2
      go_ret
      exact ⟨ao, cp, rfl, HO.out, HL.out, HI.out, TR.out⟩
    | succ n =>
    cases bx with
    | true =>
      have hx : x = X := by
        have := congrArg Prod.fst hrd
        simpa [rdPuts] using this
      have hl : (lx, true) = (l', bad') := by
        have := congrArg Prod.snd hrd
        simpa [rdPuts] using this
      injection hl with hl1 hl2
      subst hx hl1 hl2
      obtain ⟨ao, cp, hv⟩ := put_form HO.out
      subst hv
      have hpos : (0 : Int) < ((n + 1 : Nat) : Int) := by omega
      clear hrd
      go_wp2_with fail
      refine (bad_calls b lx true _ HI.out).mono ?_
      rintro e w2 ⟨rfl, rfl⟩
      go_wp2
      go_ret
      exact ⟨ao, cp, rfl, HO.out, HL.out, HI.out, TR.out⟩
    | false =>
      unfold rdPuts at hrd
      rw [if_neg (by simp)] at hrd
      have hpos : (0 : Int) < ((n + 1 : Nat) : Int) := by omega
      have hlen : x.length + 1 ≤ 1000000 := by omega
      have CS := Lib.hid (text_in b lx false wr HI.out)
      obtain ⟨y, hy⟩ : ∃ y : ByteArray, y = ⟨(textT lx false).toArray⟩ := ⟨_, rfl⟩
      obtain ⟨ly, hly⟩ : ∃ ly, ly = textA lx false := ⟨_, rfl⟩
      obtain ⟨by_, hby⟩ : ∃ by_, by_ = !textC lx false := ⟨_, rfl⟩
      rw [← hy, ← hly, ← hby] at CS hrd
      have CZ := Lib.hid (fun wx o => text_in b ly by_ wx o)
      obtain ⟨z, hz⟩ : ∃ z : ByteArray, z = ⟨(textT ly by_).toArray⟩ := ⟨_, rfl⟩
      obtain ⟨lz, hlz⟩ : ∃ lz, lz = textA ly by_ := ⟨_, rfl⟩
      obtain ⟨bz, hbz⟩ : ∃ bz, bz = !textC ly by_ := ⟨_, rfl⟩
      rw [← hz, ← hlz, ← hbz] at CZ hrd
      have HR : Hid ((x ++ [(y, z)] ++ (rdPuts n lz bz).1, (rdPuts n lz bz).2) = (X, l', bad')) := Lib.hid (by rw [List.append_assoc]; exact hrd)
      clear hrd hy hly hby hz hlz hbz
      go_wp2_with fail
      refine (bad_calls b lx false _ HI.out).mono ?_
      rintro e w2 ⟨rfl, rfl⟩
      go_wp2_with fail
      refine CS.out.mono ?_
      rintro e w2 ⟨rfl, i2, g2⟩
      have I2 := Lib.hid i2
      have T2 := Lib.hid (grown_at g2)
      clear i2 g2 CS
      go_wp2_with fail
      refine (CZ.out _ I2.out).mono ?_
      rintro e w3 ⟨rfl, i3, g3⟩
      have I3 := Lib.hid i3
      have T3 := Lib.hid (T2.out.trans (grown_at g3) (fun i hi => .inl hi))
      have O3 := Lib.hid (ownsRow_turn HO.out T3.out (fun k hk hm => by have := HL.out k hk; have := HLT.out; simp at hm; omega))
      clear i3 g3 CZ I2 T2
      go_wp2_with
        (at_builtin
         (refine append_put rfl (.tmp 16) (.tmp 22) rfl u3 x rfl (ownsRow_turn O3.out (Turn.alloc [] w3 _) (fun _ _ => by simp)) w3.heap.size (y, z) rfl (cell_new2 w3 _ _ _).1 (cell_new2 w3 _ _ _).2 (by omega) ?_)
         intro v5 w5 o5 g5 l5
         have O5 := Lib.hid o5
         have A5 := Lib.hid (row_beside TR.out T3.out g5 HL.out HLT.out I3.out l5)
         clear o5 g5 l5)
      go_roundw
      case rel => exact ⟨n, x ++ [(y, z)], lz, bz, by go_num, by simp; omega, O5.out, A5.out.2.2, A5.out.2.1, HR.out, A5.out.1⟩
      case measure => simp [intOf]

end Go.Proofs.YtjmainefmiefcaaGreat


/-
  The walk of rec's read.
-/
namespace Go.Proofs.YtjmainefmiefcaaGreat
open Go.RowKit

theorem six_stores' {w : World} {q : Nat} {a0 a1 a2 a3 a4 a5 : Value} {t : TypeId} (b : w.heap[q]? = some (.cells #[a0, a1, a2, a3, a4, a5] t)) (u0 u1 u2 u3 u4 u5 : Value) : ((((((w.setCell ⟨q, 0, none⟩ u0).setCell ⟨q, 1, none⟩ u1).setCell ⟨q, 2, none⟩ u2).setCell ⟨q, 3, none⟩ u3).setCell ⟨q, 4, none⟩ u4).setCell ⟨q, 5, none⟩ u5).heap[q]? = some (.cells #[u0, u1, u2, u3, u4, u5] t) :=
  block_set (block_set (block_set (block_set (block_set (block_set b u0) u1) u2) u3) u4) u5

theorem six_turn' (w : World) (q : Nat) (u0 u1 u2 u3 u4 u5 : Value) : Turn [q] w ((((((w.setCell ⟨q, 0, none⟩ u0).setCell ⟨q, 1, none⟩ u1).setCell ⟨q, 2, none⟩ u2).setCell ⟨q, 3, none⟩ u3).setCell ⟨q, 4, none⟩ u4).setCell ⟨q, 5, none⟩ u5) := by
  have s := fun (w : World) (i : Nat) (u : Value) => Turn.setCell (l := [q]) (b := q) (i := i) w (by simp) u
  exact (((((s _ _ u0).trans (s _ _ u1) (fun i hi => .inl hi)).trans (s _ _ u2) (fun i hi => .inl hi)).trans (s _ _ u3) (fun i hi => .inl hi)).trans (s _ _ u4) (fun i hi => .inl hi)).trans (s _ _ u5) (fun i hi => .inl hi)

/-- A record's zero. -/
def zeroR : Array Value := #[.int .i64 0, .int .i64 0, .int .i64 0, .bool false, .slice none 0 0, .slice none 0 0]

/-- In the midst of read: the answer's box, the record's, what it has, the In. -/
structure Dm (w0 : World) (b q0 q1 q2 : Nat) (cs hs : Array Value) (l : List UInt8) (bad : Bool) (w : World) : Prop where
  r0 : w.heap[q0]? = some (.cells zeroR 100)
  r1 : w.heap[q1]? = some (.cells cs 100)
  r2 : w.heap[q2]? = some (.cells hs 133)
  inn : InIs w b l bad
  turn : Turn [b] w0 w
  hb : b < w0.heap.size
  h0 : w0.heap.size ≤ q0
  h1 : q0 < q1
  h2 : q1 < q2

theorem Dm.step {w0 : World} {b q0 q1 q2 : Nat} {cs hs : Array Value} {l l' : List UInt8} {bad bad' : Bool} {w w' : World} (h : Dm w0 b q0 q1 q2 cs hs l bad w) (t : Turn [b] w w') (i : InIs w' b l' bad') : Dm w0 b q0 q1 q2 cs hs l' bad' w' :=
  ⟨t.heap h.r0 (by have := h.hb; have := h.h0; simp; omega), t.heap h.r1 (by have := h.hb; have := h.h0; have := h.h1; simp; omega), t.heap h.r2 (by have := h.hb; have := h.h0; have := h.h1; have := h.h2; simp; omega), i, h.turn.trans t (fun i hi => .inl hi), h.hb, h.h0, h.h1, h.h2⟩

theorem Dm.set {w0 : World} {b q0 q1 q2 : Nat} {cs hs : Array Value} {l : List UInt8} {bad : Bool} {w : World} (h : Dm w0 b q0 q1 q2 cs hs l bad w) (i : Nat) (v : Value) : Dm w0 b q0 q1 q2 (cs.setIfInBounds i v) hs l bad (w.setCell ⟨q1, i, none⟩ v) := by
  have t : Turn [q1] w (w.setCell ⟨q1, i, none⟩ v) := Turn.setCell w (by simp) v
  refine ⟨t.heap h.r0 (by have := h.h1; simp; omega), block_set h.r1 v, t.heap h.r2 (by have := h.h2; simp; omega), h.inn.turn t (by have := h.hb; have := h.h0; have := h.h1; simp; omega), h.turn.trans t (fun i hi => .inr (by have := h.h0; have := h.h1; simp at hi; omega)), h.hb, h.h0, h.h1, h.h2⟩

/-- What is left to be said at the end. -/
theorem Dm.ends {w0 : World} {b q0 q1 q2 : Nat} {cs hs : Array Value} {l : List UInt8} {bad : Bool} {w w' : World} (h : Dm w0 b q0 q1 q2 cs hs l bad w) (t : Turn [q0] w w') : InIs w' b l bad ∧ Turn [b] w0 w' :=
  ⟨h.inn.turn t (by have := h.hb; have := h.h0; simp; omega), h.turn.trans t (fun i hi => .inr (by have := h.h0; simp at hi; omega))⟩

theorem cell_at {w : World} {q i : Nat} {cs : Array Value} {t : TypeId} {v : Value} (h : w.heap[q]? = some (.cells cs t)) (hv : cs[i]? = some v) : w.cell? ⟨q, i, none⟩ = some v := by
  rw [cell_of_row _ _ _ _ _ _ h]
  exact hv

set_option maxHeartbeats 4000000 in
set_option maxRecDepth 100000 in
theorem read_calls8 (b : Nat) (l : List UInt8) (w : World) (h : InIs w b l false) :
    Calls Tryz.prog 94 #[.pointer (some ⟨b, 0, none⟩)] w fun e w' => ∃ ap cp aq cq, e = .returned (.agg ((rdRec l).1.cells ap cp aq cq)) ∧
      w'.ownsRow 0 3 1 (.slice ap (rdRec l).1.parts.length cp) (rdRec l).1.parts.length (i64s (rdRec l).1.parts) ∧
      w'.ownsRow 0 28 2 (.slice aq (rdRec l).1.puts.length cq) (rdRec l).1.puts.length (pcells (rdRec l).1.puts) ∧
      (∀ k, (Value.slice ap (rdRec l).1.parts.length cp).ownBlock = some k → w.heap.size ≤ k) ∧ (∀ k, (Value.slice aq (rdRec l).1.puts.length cq).ownBlock = some k → w.heap.size ≤ k) ∧
      InIs w' b (rdRec l).2.1 (rdRec l).2.2 ∧ Turn [b] w w' := by
  have hlt := h.lt
  have HLT := Lib.hid hlt
  have I0 : Hid (∀ o, InIs (w.alloc o) b l false) := Lib.hid (fun o => h.turn (Turn.alloc [] w o) (by simp))
  unfold rdRec
  obtain ⟨k, hk⟩ : ∃ k : Nat, k = leN (taken l false 2) := ⟨_, rfl⟩
  obtain ⟨l1, hl1⟩ : ∃ l1, l1 = after l false 2 := ⟨_, rfl⟩
  obtain ⟨b1, hb1⟩ : ∃ b1, b1 = !canTake l false 2 := ⟨_, rfl⟩
  have C1 := Lib.hid (fun wx h => small_in b l false wx h)
  rw [← hk, ← hl1, ← hb1] at C1 ⊢
  obtain ⟨t, ht⟩ : ∃ t, t = longN (taken l1 b1 8) := ⟨_, rfl⟩
  obtain ⟨l2, hl2⟩ : ∃ l2, l2 = after l1 b1 8 := ⟨_, rfl⟩
  obtain ⟨b2, hb2⟩ : ∃ b2, b2 = !canTake l1 b1 8 := ⟨_, rfl⟩
  have C2 := Lib.hid (fun wx h => long_in b l1 b1 wx h)
  rw [← ht, ← hl2, ← hb2] at C2 ⊢
  have CH := Lib.hid (fun w => hasOf_calls (k : Int) w)
  obtain ⟨x, hx⟩ : ∃ x, x = rdTail (k : Int) t l2 b2 := ⟨_, rfl⟩
  have HX := Lib.hid hx
  rw [← hx]
  clear hx
  clear hlt h hk hl1 hb1 ht hl2 hb2
  go_enter Tryz.func94, Tryz.ntmps94
  go_wp2_with fail
  refine (C1.out _ (I0.out _)).mono ?_
  rintro e w1 ⟨rfl, i1, g1⟩
  have I1 := Lib.hid i1
  have T1 : Hid (Turn [b] w w1) := Lib.hid ((Turn.alloc [b] w _).trans (grown_at g1) (fun i hi => .inl hi))
  have hR1 := (grown_at g1).heap (heap_alloc_new w (.cells #[.int .i64 0, .int .i64 0, .int .i64 0, .bool false, .slice none 0 0, .slice none 0 0] 100)) (by have := HLT.out; simp; omega)
  have R1 := Lib.hid hR1
  clear i1 g1 C1 I0 hR1
  go_wp2_with fail
  refine (C2.out _ I1.out).mono ?_
  rintro e w2 ⟨rfl, i2, g2⟩
  have I2 := Lib.hid i2
  have T2 := Lib.hid (T1.out.trans (grown_at g2) (fun i hi => .inl hi))
  have R2 := Lib.hid ((grown_at g2).heap R1.out (by have := HLT.out; simp; omega))
  clear i2 g2 C2 I1 T1 R1
  go_wp2_with fail
  refine (CH.out _).mono ?_
  rintro e w3 ⟨rfl, t3⟩
  have D3 : Hid (∀ hs, Dm w b w.heap.size w2.heap.size w3.heap.size #[.int .i64 (k : Int), .int .i64 t, .int .i64 0, .bool false, .slice none 0 0, .slice none 0 0] hs l2 b2 (w3.alloc (.cells hs 133))) := Lib.hid (fun hs => by
    have s3 := t3.size
    have s2 := lt_of_heap R2.out
    have hs2 : (w2.alloc (.cells #[.int .i64 (k : Int), .int .i64 t, .int .i64 0, .bool false, .slice none 0 0, .slice none 0 0] 100)).heap.size = w2.heap.size + 1 := by simp
    have ta := Turn.alloc [] w2 (.cells #[.int .i64 (k : Int), .int .i64 t, .int .i64 0, .bool false, .slice none 0 0, .slice none 0 0] 100)
    have tb := Turn.alloc [] w3 (.cells hs 133)
    exact ⟨tb.heap (t3.heap (ta.heap R2.out (by simp)) (by simp)) (by simp), tb.heap (t3.heap (heap_alloc_new w2 _) (by simp)) (by simp), heap_alloc_new w3 _, ((I2.out.turn ta (by simp)).turn t3 (by simp)).turn tb (by simp),
      ((T2.out.trans ta (by simp)).trans t3 (by simp)).trans tb (by simp), HLT.out, Nat.le_refl _, s2, by omega⟩)
  clear t3 CH I2 T2 R2
  have hk : k = 2 ∨ k = 5 ∨ (k = 6 ∨ k = 8 ∨ k = 9) ∨ (k = 4 ∨ k = 7) ∨ (k ≠ 2 ∧ k ≠ 5 ∧ k ≠ 6 ∧ k ≠ 8 ∧ k ≠ 9 ∧ k ≠ 4 ∧ k ≠ 7) := by omega
  rcases hk with hk | hk | hk | hk | hk
  · have HV : Hid (hasV (k : Int) = ⟨true, false, false, false⟩) := Lib.hid (by subst hk; rfl)
    have HT : Hid (rdTail (k : Int) t l2 b2 = (⟨k, t, longN (taken l2 b2 8), false, [], []⟩, after l2 b2 8, !canTake l2 b2 8)) := Lib.hid (by unfold rdTail; rw [if_pos (by omega)])
    rw [HT.out] at HX
    rw [HV.out]
    have CL := Lib.hid (fun wx h => long_in b l2 b2 wx h)
    obtain ⟨d, hd⟩ : ∃ d, d = longN (taken l2 b2 8) := ⟨_, rfl⟩
    obtain ⟨l4, hl4⟩ : ∃ l4, l4 = after l2 b2 8 := ⟨_, rfl⟩
    obtain ⟨b4, hb4⟩ : ∃ b4, b4 = !canTake l2 b2 8 := ⟨_, rfl⟩
    rw [← hd, ← hl4, ← hb4] at CL HX
    clear hd hl4 hb4
    unfold HasV.cells
    dsimp only
    clear HV HT hk
    go_wp2_with fail
    refine (CL.out _ (D3.out _).inn).mono ?_
    rintro e w4 ⟨rfl, i4, g4⟩
    have D4 := Lib.hid ((D3.out _).step (grown_at g4) i4)
    clear i4 g4 CL
    have D5 := Lib.hid (D4.out.set 2 (.int .i64 d))
    have f1 : w4.frozen? ⟨w2.heap.size, 2, none⟩ = false := unfrozen_of D4.out.r1
    have f2 : w4.cell? ⟨w2.heap.size, 2, none⟩ = some (.int .i64 0) := cell_at D4.out.r1 rfl
    obtain ⟨W, hW⟩ : ∃ W, W = w4.setCell ⟨w2.heap.size, 2, none⟩ (.int .i64 d) := ⟨_, rfl⟩
    rw [← hW] at D5
    have g1 := cell_at (i := 1) D5.out.r2 rfl
    have g2 := cell_at (i := 2) D5.out.r2 rfl
    have g3 := cell_at (i := 3) D5.out.r2 rfl
    have c0 := cell_at (i := 0) D5.out.r1 rfl
    have c1 := cell_at (i := 1) D5.out.r1 rfl
    have c2 := cell_at (i := 2) D5.out.r1 rfl
    have c3 := cell_at (i := 3) D5.out.r1 rfl
    have c4 := cell_at (i := 4) D5.out.r1 rfl
    have c5 := cell_at (i := 5) D5.out.r1 rfl
    have z0 := cell_at (i := 0) D5.out.r0 rfl
    have z1 := cell_at (i := 1) D5.out.r0 rfl
    have z2 := cell_at (i := 2) D5.out.r0 rfl
    have z3 := cell_at (i := 3) D5.out.r0 rfl
    have z4 := cell_at (i := 4) D5.out.r0 rfl
    have z5 := cell_at (i := 5) D5.out.r0 rfl
    have fz : ∀ i, W.frozen? ⟨w.heap.size, i, none⟩ = false := fun i => unfrozen_of D5.out.r0
    rw [hW] at g1 g2 g3 c0 c1 c2 c3 c4 c5 z0 z1 z2 z3 z4 z5 fz
    have HW := Lib.hid hW
    clear hW
    go_wp2_with fail
    rw [← HW.out]
    refine bodyPost_ret_by (results_cell_row rfl _ _ w.heap.size 100 _ (0, 0) _ rfl (six_stores' D5.out.r0 _ _ _ _ _ _) Tryz.underlying100 rfl recsize) rfl ?_
    rw [HX.out]
    have E := fun u0 u1 u2 u3 u4 u5 => D5.out.ends (six_turn' W w.heap.size u0 u1 u2 u3 u4 u5)
    exact ⟨none, 0, none, 0, rfl, World.ownsRow_nil _ _ _ _, World.ownsRow_nil _ _ _ _, (by intro k hk; cases hk), (by intro k hk; cases hk), (E _ _ _ _ _ _).1, (E _ _ _ _ _ _).2⟩
  · have HV : Hid (hasV (k : Int) = ⟨false, true, false, false⟩) := Lib.hid (by subst hk; rfl)
    have HT : Hid (rdTail (k : Int) t l2 b2 = (⟨k, t, 0, truthV l2 b2, [], []⟩, truthA l2 b2, !truthC l2 b2)) := Lib.hid (by unfold rdTail; rw [if_neg (by omega), if_pos (by omega)])
    rw [HT.out] at HX
    rw [HV.out]
    have CL := Lib.hid (fun wx h => truth_in b l2 b2 wx h)
    obtain ⟨d, hd⟩ : ∃ d, d = truthV l2 b2 := ⟨_, rfl⟩
    obtain ⟨l4, hl4⟩ : ∃ l4, l4 = truthA l2 b2 := ⟨_, rfl⟩
    obtain ⟨b4, hb4⟩ : ∃ b4, b4 = !truthC l2 b2 := ⟨_, rfl⟩
    rw [← hd, ← hl4, ← hb4] at CL HX
    clear hd hl4 hb4
    unfold HasV.cells
    dsimp only
    clear HV HT hk
    go_wp2_with fail
    refine (CL.out _ (D3.out _).inn).mono ?_
    rintro e w4 ⟨rfl, i4, g4⟩
    have D4 := Lib.hid ((D3.out _).step (grown_at g4) i4)
    clear i4 g4 CL
    have D5 := Lib.hid (D4.out.set 3 (.bool d))
    have f1 : w4.frozen? ⟨w2.heap.size, 3, none⟩ = false := unfrozen_of D4.out.r1
    have f2 : w4.cell? ⟨w2.heap.size, 3, none⟩ = some (.bool false) := cell_at D4.out.r1 rfl
    obtain ⟨W, hW⟩ : ∃ W, W = w4.setCell ⟨w2.heap.size, 3, none⟩ (.bool d) := ⟨_, rfl⟩
    rw [← hW] at D5
    have g2 := cell_at (i := 2) D5.out.r2 rfl
    have g3 := cell_at (i := 3) D5.out.r2 rfl
    have c0 := cell_at (i := 0) D5.out.r1 rfl
    have c1 := cell_at (i := 1) D5.out.r1 rfl
    have c2 := cell_at (i := 2) D5.out.r1 rfl
    have c3 := cell_at (i := 3) D5.out.r1 rfl
    have c4 := cell_at (i := 4) D5.out.r1 rfl
    have c5 := cell_at (i := 5) D5.out.r1 rfl
    have z0 := cell_at (i := 0) D5.out.r0 rfl
    have z1 := cell_at (i := 1) D5.out.r0 rfl
    have z2 := cell_at (i := 2) D5.out.r0 rfl
    have z3 := cell_at (i := 3) D5.out.r0 rfl
    have z4 := cell_at (i := 4) D5.out.r0 rfl
    have z5 := cell_at (i := 5) D5.out.r0 rfl
    have fz : ∀ i, W.frozen? ⟨w.heap.size, i, none⟩ = false := fun i => unfrozen_of D5.out.r0
    rw [hW] at g2 g3 c0 c1 c2 c3 c4 c5 z0 z1 z2 z3 z4 z5 fz
    have HW := Lib.hid hW
    clear hW
    go_wp2_with fail
    rw [← HW.out]
    refine bodyPost_ret_by (results_cell_row rfl _ _ w.heap.size 100 _ (0, 0) _ rfl (six_stores' D5.out.r0 _ _ _ _ _ _) Tryz.underlying100 rfl recsize) rfl ?_
    rw [HX.out]
    have E := fun u0 u1 u2 u3 u4 u5 => D5.out.ends (six_turn' W w.heap.size u0 u1 u2 u3 u4 u5)
    exact ⟨none, 0, none, 0, rfl, World.ownsRow_nil _ _ _ _, World.ownsRow_nil _ _ _ _, (by intro k hk; cases hk), (by intro k hk; cases hk), (E _ _ _ _ _ _).1, (E _ _ _ _ _ _).2⟩
  · have HV : Hid (hasV (k : Int) = ⟨false, false, true, false⟩) := Lib.hid (by rcases hk with rfl | rfl | rfl <;> rfl)
    have HT : Hid (rdTail (k : Int) t l2 b2 = (⟨k, t, 0, false, (rdParts (leN (taken l2 b2 2)) (after l2 b2 2) (!canTake l2 b2 2)).1, []⟩, (rdParts (leN (taken l2 b2 2)) (after l2 b2 2) (!canTake l2 b2 2)).2)) := Lib.hid (by unfold rdTail; rw [if_neg (by omega), if_neg (by omega), if_pos (by omega)])
    rw [HT.out] at HX
    rw [HV.out]
    have CL := Lib.hid (fun wx h X l' bad' hX => readParts_calls b l2 b2 wx h X l' bad' hX)
    obtain ⟨X, l4, b4, hR⟩ : ∃ (X : List Int) (l4 : List UInt8) (b4 : Bool), (rdParts (leN (taken l2 b2 2)) (after l2 b2 2) (!canTake l2 b2 2)) = (X, l4, b4) := ⟨_, _, _, rfl⟩
    have CL2 := Lib.hid (fun wx h => CL.out wx h X l4 b4 hR)
    rw [hR] at HX
    dsimp only at HX
    clear CL hR
    unfold HasV.cells
    dsimp only
    clear HV HT hk
    go_wp2_with fail
    refine (CL2.out _ (D3.out _).inn).mono ?_
    rintro e w4 ⟨a4, c4', rfl, o4, lw4, i4, t4⟩
    have O4 := Lib.hid o4
    have hs3 : (w3.alloc (.cells #[.bool false, .bool false, .bool true, .bool false] 133)).heap.size = w3.heap.size + 1 := by simp
    have L4 : Hid (∀ g, (Value.slice a4 X.length c4').ownBlock = some g → w3.heap.size < g ∧ w2.heap.size < g ∧ w.heap.size < g) := Lib.hid (fun g hg => by
      have := lw4 g hg
      have := (D3.out #[]).h1
      have := (D3.out #[]).h2
      omega)
    have D4 := Lib.hid ((D3.out _).step t4 i4)
    clear o4 lw4 i4 t4 CL2 hs3
    have D5 := Lib.hid (D4.out.set 4 (.slice a4 X.length c4'))
    have f1 : w4.frozen? ⟨w2.heap.size, 4, none⟩ = false := unfrozen_of D4.out.r1
    have f2 : w4.cell? ⟨w2.heap.size, 4, none⟩ = some (.slice none 0 0) := cell_at D4.out.r1 rfl
    obtain ⟨W, hW⟩ : ∃ W, W = w4.setCell ⟨w2.heap.size, 4, none⟩ (.slice a4 X.length c4') := ⟨_, rfl⟩
    rw [← hW] at D5
    have g3 := cell_at (i := 3) D5.out.r2 rfl
    have c0 := cell_at (i := 0) D5.out.r1 rfl
    have c1 := cell_at (i := 1) D5.out.r1 rfl
    have c2 := cell_at (i := 2) D5.out.r1 rfl
    have c3 := cell_at (i := 3) D5.out.r1 rfl
    have c4 := cell_at (i := 4) D5.out.r1 rfl
    have c5 := cell_at (i := 5) D5.out.r1 rfl
    have z0 := cell_at (i := 0) D5.out.r0 rfl
    have z1 := cell_at (i := 1) D5.out.r0 rfl
    have z2 := cell_at (i := 2) D5.out.r0 rfl
    have z3 := cell_at (i := 3) D5.out.r0 rfl
    have z4 := cell_at (i := 4) D5.out.r0 rfl
    have z5 := cell_at (i := 5) D5.out.r0 rfl
    have fz : ∀ i, W.frozen? ⟨w.heap.size, i, none⟩ = false := fun i => unfrozen_of D5.out.r0
    rw [hW] at g3 c0 c1 c2 c3 c4 c5 z0 z1 z2 z3 z4 z5 fz
    have HW := Lib.hid hW
    clear hW
    go_wp2_with fail
    rw [← HW.out]
    refine bodyPost_ret_by (results_cell_row rfl _ _ w.heap.size 100 _ (0, 0) _ rfl (six_stores' D5.out.r0 _ _ _ _ _ _) Tryz.underlying100 rfl recsize) rfl ?_
    rw [HX.out]
    have E := fun u0 u1 u2 u3 u4 u5 => D5.out.ends (six_turn' W w.heap.size u0 u1 u2 u3 u4 u5)
    have TS : Turn [w2.heap.size] w4 W := by rw [HW.out]; exact Turn.setCell w4 (by simp) _
    exact ⟨a4, c4', none, 0, rfl, (ownsRow_turn (ownsRow_turn O4.out TS (fun g hg => by have := L4.out g hg; simp; omega)) (six_turn' W w.heap.size _ _ _ _ _ _) (fun g hg => by have := L4.out g hg; simp; omega)), World.ownsRow_nil _ _ _ _, (fun g hg => by have := L4.out g hg; omega), (by intro k hk; cases hk), (E _ _ _ _ _ _).1, (E _ _ _ _ _ _).2⟩
  · have HV : Hid (hasV (k : Int) = ⟨false, false, false, true⟩) := Lib.hid (by rcases hk with rfl | rfl <;> rfl)
    have HT : Hid (rdTail (k : Int) t l2 b2 = (⟨k, t, 0, false, [], (rdPuts (leN (taken l2 b2 2)) (after l2 b2 2) (!canTake l2 b2 2)).1⟩, (rdPuts (leN (taken l2 b2 2)) (after l2 b2 2) (!canTake l2 b2 2)).2)) := Lib.hid (by unfold rdTail; rw [if_neg (by omega), if_neg (by omega), if_neg (by omega), if_pos (by omega)])
    rw [HT.out] at HX
    rw [HV.out]
    have CL := Lib.hid (fun wx h X l' bad' hX => readPuts_calls b l2 b2 wx h X l' bad' hX)
    obtain ⟨X, l4, b4, hR⟩ : ∃ (X : List (ByteArray × ByteArray)) (l4 : List UInt8) (b4 : Bool), (rdPuts (leN (taken l2 b2 2)) (after l2 b2 2) (!canTake l2 b2 2)) = (X, l4, b4) := ⟨_, _, _, rfl⟩
    have CL2 := Lib.hid (fun wx h => CL.out wx h X l4 b4 hR)
    rw [hR] at HX
    dsimp only at HX
    clear CL hR
    unfold HasV.cells
    dsimp only
    clear HV HT hk
    go_wp2_with fail
    refine (CL2.out _ (D3.out _).inn).mono ?_
    rintro e w4 ⟨a4, c4', rfl, o4, lw4, i4, t4⟩
    have O4 := Lib.hid o4
    have hs3 : (w3.alloc (.cells #[.bool false, .bool false, .bool false, .bool true] 133)).heap.size = w3.heap.size + 1 := by simp
    have L4 : Hid (∀ g, (Value.slice a4 X.length c4').ownBlock = some g → w3.heap.size < g ∧ w2.heap.size < g ∧ w.heap.size < g) := Lib.hid (fun g hg => by
      have := lw4 g hg
      have := (D3.out #[]).h1
      have := (D3.out #[]).h2
      omega)
    have D4 := Lib.hid ((D3.out _).step t4 i4)
    clear o4 lw4 i4 t4 CL2 hs3
    have D5 := Lib.hid (D4.out.set 5 (.slice a4 X.length c4'))
    have f1 : w4.frozen? ⟨w2.heap.size, 5, none⟩ = false := unfrozen_of D4.out.r1
    have f2 : w4.cell? ⟨w2.heap.size, 5, none⟩ = some (.slice none 0 0) := cell_at D4.out.r1 rfl
    obtain ⟨W, hW⟩ : ∃ W, W = w4.setCell ⟨w2.heap.size, 5, none⟩ (.slice a4 X.length c4') := ⟨_, rfl⟩
    rw [← hW] at D5
    have c0 := cell_at (i := 0) D5.out.r1 rfl
    have c1 := cell_at (i := 1) D5.out.r1 rfl
    have c2 := cell_at (i := 2) D5.out.r1 rfl
    have c3 := cell_at (i := 3) D5.out.r1 rfl
    have c4 := cell_at (i := 4) D5.out.r1 rfl
    have c5 := cell_at (i := 5) D5.out.r1 rfl
    have z0 := cell_at (i := 0) D5.out.r0 rfl
    have z1 := cell_at (i := 1) D5.out.r0 rfl
    have z2 := cell_at (i := 2) D5.out.r0 rfl
    have z3 := cell_at (i := 3) D5.out.r0 rfl
    have z4 := cell_at (i := 4) D5.out.r0 rfl
    have z5 := cell_at (i := 5) D5.out.r0 rfl
    have fz : ∀ i, W.frozen? ⟨w.heap.size, i, none⟩ = false := fun i => unfrozen_of D5.out.r0
    rw [hW] at  c0 c1 c2 c3 c4 c5 z0 z1 z2 z3 z4 z5 fz
    have HW := Lib.hid hW
    clear hW
    go_wp2_with fail
    rw [← HW.out]
    refine bodyPost_ret_by (results_cell_row rfl _ _ w.heap.size 100 _ (0, 0) _ rfl (six_stores' D5.out.r0 _ _ _ _ _ _) Tryz.underlying100 rfl recsize) rfl ?_
    rw [HX.out]
    have E := fun u0 u1 u2 u3 u4 u5 => D5.out.ends (six_turn' W w.heap.size u0 u1 u2 u3 u4 u5)
    have TS : Turn [w2.heap.size] w4 W := by rw [HW.out]; exact Turn.setCell w4 (by simp) _
    exact ⟨none, 0, a4, c4', rfl, World.ownsRow_nil _ _ _ _, (ownsRow_turn (ownsRow_turn O4.out TS (fun g hg => by have := L4.out g hg; simp; omega)) (six_turn' W w.heap.size _ _ _ _ _ _) (fun g hg => by have := L4.out g hg; simp; omega)), (by intro k hk; cases hk), (fun g hg => by have := L4.out g hg; omega), (E _ _ _ _ _ _).1, (E _ _ _ _ _ _).2⟩
  · have HV : Hid (hasV (k : Int) = ⟨false, false, false, false⟩) := Lib.hid (by unfold hasV; rw [decide_eq_false (by omega), decide_eq_false (by omega), decide_eq_false (by omega), decide_eq_false (by omega)])
    have HT : Hid (rdTail (k : Int) t l2 b2 = (⟨k, t, 0, false, [], []⟩, l2, b2)) := Lib.hid (by unfold rdTail; rw [if_neg (by omega), if_neg (by omega), if_neg (by omega), if_neg (by omega)])
    rw [HT.out] at HX
    rw [HV.out]
    have D5 := Lib.hid (D3.out #[.bool false, .bool false, .bool false, .bool false])
    obtain ⟨W, hW⟩ : ∃ W, W = w3.alloc (.cells #[.bool false, .bool false, .bool false, .bool false] 133) := ⟨_, rfl⟩
    rw [← hW] at D5
    have g0 := cell_at (i := 0) D5.out.r2 rfl
    have g1 := cell_at (i := 1) D5.out.r2 rfl
    have g2 := cell_at (i := 2) D5.out.r2 rfl
    have g3 := cell_at (i := 3) D5.out.r2 rfl
    have c0 := cell_at (i := 0) D5.out.r1 rfl
    have c1 := cell_at (i := 1) D5.out.r1 rfl
    have c2 := cell_at (i := 2) D5.out.r1 rfl
    have c3 := cell_at (i := 3) D5.out.r1 rfl
    have c4 := cell_at (i := 4) D5.out.r1 rfl
    have c5 := cell_at (i := 5) D5.out.r1 rfl
    have z0 := cell_at (i := 0) D5.out.r0 rfl
    have z1 := cell_at (i := 1) D5.out.r0 rfl
    have z2 := cell_at (i := 2) D5.out.r0 rfl
    have z3 := cell_at (i := 3) D5.out.r0 rfl
    have z4 := cell_at (i := 4) D5.out.r0 rfl
    have z5 := cell_at (i := 5) D5.out.r0 rfl
    have fz : ∀ i, W.frozen? ⟨w.heap.size, i, none⟩ = false := fun i => unfrozen_of D5.out.r0
    rw [hW] at g0 g1 g2 g3 c0 c1 c2 c3 c4 c5 z0 z1 z2 z3 z4 z5 fz
    have HW := Lib.hid hW
    clear hW HV HT hk
    unfold HasV.cells
    dsimp only
    go_wp2_with fail
    rw [← HW.out]
    refine bodyPost_ret_by (results_cell_row rfl _ _ w.heap.size 100 _ (0, 0) _ rfl (six_stores' D5.out.r0 _ _ _ _ _ _) Tryz.underlying100 rfl recsize) rfl ?_
    rw [HX.out]
    have E := fun u0 u1 u2 u3 u4 u5 => D5.out.ends (six_turn' W w.heap.size u0 u1 u2 u3 u4 u5)
    exact ⟨none, 0, none, 0, rfl, World.ownsRow_nil _ _ _ _, World.ownsRow_nil _ _ _ _, (by intro k hk; cases hk), (by intro k hk; cases hk), (E _ _ _ _ _ _).1, (E _ _ _ _ _ _).2⟩

end Go.Proofs.YtjmainefmiefcaaGreat


/-
  The walk of rec's Decode.
-/
namespace Go.Proofs.YtjmainefmiefcaaGreat
open Go.RowKit

theorem own_low {w : World} {ao : Option Addr} {n c s B : Nat} {e : TypeId} {xs : List Value} (h : w.ownsRow 0 e s (.slice ao n c) n xs) (hl : ∀ k, (Value.slice ao n c).ownBlock = some k → B ≤ k) : ∀ A, ao = some A → B ≤ A.block := by
  intro A hA
  rcases h.2 with ⟨hv, -⟩ | ⟨g, cap, cur, hv, -⟩
  · injection hv with e1 e2 e3
    rw [hA] at e1
    cases e1
  · injection hv with e1 e2 e3
    rw [hA] at e1
    injection e1 with e1
    subst e1
    exact hl g (by rw [hA]; rfl)

theorem rdTail_fit {k t : Int} (hk : okI k) (ht : okI t) (l : List UInt8) (bad : Bool) : (rdTail k t l bad).1.fit := by
  have hz : okI 0 := by unfold okI; omega
  unfold rdTail RecV.fit
  by_cases h2 : k = 2
  · rw [if_pos h2]; exact ⟨hk, ht, long_ok l bad⟩
  rw [if_neg h2]
  by_cases h5 : k = 5
  · rw [if_pos h5]; exact ⟨hk, ht, hz⟩
  rw [if_neg h5]
  by_cases h6 : k = 6 ∨ k = 8 ∨ k = 9
  · rw [if_pos h6]; exact ⟨hk, ht, hz⟩
  rw [if_neg h6]
  by_cases h7 : k = 4 ∨ k = 7
  · rw [if_pos h7]; exact ⟨hk, ht, hz⟩
  rw [if_neg h7]; exact ⟨hk, ht, hz⟩

theorem rdRec_fit (l : List UInt8) : (rdRec l).1.fit := by
  unfold rdRec
  have := small_lt l false
  exact rdTail_fit (by unfold okI; omega) (long_ok _ _) _ _

theorem rdTail_range (k t : Int) (l : List UInt8) (bad : Bool) : (∀ n ∈ (rdTail k t l bad).1.parts, 0 ≤ n ∧ n < 65536) ∧ (∀ p ∈ (rdTail k t l bad).1.puts, p.1.size < 65536 ∧ p.2.size < 65536) := by
  unfold rdTail
  by_cases h2 : k = 2
  · rw [if_pos h2]; exact ⟨by simp, by simp⟩
  rw [if_neg h2]
  by_cases h5 : k = 5
  · rw [if_pos h5]; exact ⟨by simp, by simp⟩
  rw [if_neg h5]
  by_cases h6 : k = 6 ∨ k = 8 ∨ k = 9
  · rw [if_pos h6]; exact ⟨(rdParts_range _ _ _).2, by simp⟩
  rw [if_neg h6]
  by_cases h7 : k = 4 ∨ k = 7
  · rw [if_pos h7]; exact ⟨by simp, (rdPuts_range _ _ _).2⟩
  rw [if_neg h7]; exact ⟨by simp, by simp⟩

theorem getD_mem {α : Type} {l : List α} {d : α} {i : Nat} (h : i < l.length) : l.getD i d ∈ l := by
  rw [show l.getD i d = l[i] by simp [List.getD, h]]
  exact List.getElem_mem h

theorem recNone_fit' : recNone.fit := by unfold RecV.fit okI recNone; simp

set_option maxHeartbeats 4000000 in
set_option maxRecDepth 100000 in
theorem decode_calls (l : List UInt8) (w : World) (ao : Option Addr) (c : Nat) (h : Sl w ao c l) :
    Calls Tryz.prog 67 #[.slice ao l.length c] w fun e w' => ∃ (x : RecV) (ap : Option Addr) (cp : Nat) (aq : Option Addr) (cq : Nat) (err : Int), e = .returned (.tuple #[.agg (x.cells ap cp aq cq), .int .i64 err]) ∧ Il w' ap cp x.parts ∧ Ps w' aq cq x.puts ∧ x.fit ∧
      (∀ A, ap = some A → w.heap.size ≤ A.block) ∧ (∀ A, aq = some A → w.heap.size ≤ A.block) ∧ Turn [] w w' ∧
      ((err = 0 ∧ recB x = true ∧ recBytes x = l) ∨ (err = 1 ∧ x = recNone ∧ ∀ r, recB r = true → recBytes r ≠ l)) := by
  have C1 : Hid (∀ o, Calls Tryz.prog 93 #[.slice ao l.length c] (w.alloc o) fun e w' => e = .returned (.pointer (some ⟨w.heap.size + 1, 0, none⟩)) ∧ InIs w' (w.heap.size + 1) l false ∧ Below (w.alloc o).heap.size (w.alloc o) w') := Lib.hid (fun o => by
    have := read_calls ao c l (w.alloc o) (h.belowAll (new_below w o))
    have hs : (w.alloc o).heap.size = w.heap.size + 1 := by simp
    rw [hs] at this ⊢
    exact this)
  have C2 := Lib.hid (fun wx h => read_calls8 (w.heap.size + 1) l wx h)
  have HF := Lib.hid (rdRec_fit l)
  have HRG : (∀ n ∈ (rdRec l).1.parts, 0 ≤ n ∧ n < 65536) ∧ (∀ p ∈ (rdRec l).1.puts, p.1.size < 65536 ∧ p.2.size < 65536) := rdTail_range _ _ _ _
  have HP : Hid (∀ n ∈ (rdRec l).1.parts, -9223372036854775808 ≤ n ∧ n ≤ 9223372036854775807) := Lib.hid (fun n hn => by have := HRG.1 n hn; omega)
  have HQ : Hid (∀ i, i < (rdRec l).1.puts.length → ((rdRec l).1.puts.getD i putNone).1.size ≤ 9223372036854775807 ∧ ((rdRec l).1.puts.getD i putNone).2.size ≤ 9223372036854775807) := Lib.hid (fun i hi => by have := HRG.2 _ (getD_mem (d := putNone) hi); omega)
  have HS := Lib.hid (rdRec_sound l)
  have HU : Hid (∀ r, recB r = true → recBytes r = l → rdRec l = (r, [], false)) := Lib.hid (fun r hr e => by rw [← e]; exact rdRec_full r hr)
  obtain ⟨⟨⟨kd, t, d, y, P, Q⟩, lx, bx⟩, hx⟩ : ∃ x, x = rdRec l := ⟨_, rfl⟩
  rw [← hx] at C2 HF HP HQ HS HU
  dsimp only at C2 HF HP HQ HS HU
  have CE := Lib.hid (fun wx h => end_calls (w.heap.size + 1) lx bx wx h)
  obtain ⟨n, hn⟩ : ∃ n, n = l.length := ⟨_, rfl⟩
  rw [← hn] at C1 ⊢
  clear h HRG hx hn
  go_enter Tryz.func67, Tryz.ntmps67
  go_wp2_with fail
  refine (C1.out _).mono ?_
  rintro e w1 ⟨rfl, i1, t1⟩
  have I1 := Lib.hid i1
  have T1 : Hid (Turn [] w w1) := Lib.hid ((Turn.alloc [] w _).trans (Turn.of_below t1 []) (by simp))
  have R1 := Lib.hid ((Turn.of_below t1 []).heap (heap_alloc_new w _) (by simp))
  clear i1 t1 C1
  go_wp2_with fail
  refine (C2.out _ I1.out).mono ?_
  rintro e w2 ⟨ap, cp, aq, cq, rfl, op, oq, lp, lq, i2, t2⟩
  have I2 := Lib.hid i2
  have OP := Lib.hid op
  have OQ := Lib.hid oq
  have S1 := Lib.hid (lt_of_heap R1.out)
  have LP : Hid (∀ k, (Value.slice ap P.length cp).ownBlock = some k → w.heap.size < k) := Lib.hid (fun k hk => by have := lp k hk; have := S1.out; omega)
  have LQ : Hid (∀ k, (Value.slice aq Q.length cq).ownBlock = some k → w.heap.size < k) := Lib.hid (fun k hk => by have := lq k hk; have := S1.out; omega)
  have T2 : Hid (Turn [] w w2) := Lib.hid (T1.out.trans t2 (fun i hi => .inr (by simp at hi; omega)))
  have R2 := Lib.hid (t2.heap R1.out (by simp))
  have CR : Hid (∀ wx, Turn [] w2 wx → Calls Tryz.prog 73 #[.agg ((RecV.mk kd t d y P Q).cells ap cp aq cq)] wx fun e w' => e = .returned (.bool (recB ⟨kd, t, d, y, P, Q⟩)) ∧ Turn [] wx w') := Lib.hid (fun wx tx =>
    kindRecord_calls ⟨kd, t, d, y, P, Q⟩ (own_il (ownsRow_turn OP.out tx (by simp)) HP.out) (own_ps (ownsRow_turn OQ.out tx (by simp)) HQ.out) HF.out.2.1 HF.out.2.2)
  have I3 : Hid (∀ o, InIs (w2.alloc o) (w.heap.size + 1) lx bx) := Lib.hid (fun o => I2.out.turn (Turn.alloc [] w2 o) (by simp))
  clear op oq lp lq i2 t2 C2 I1 T1 R1 S1
  obtain ⟨en, hen⟩ : ∃ en, en = (!bx && decide (lx = [])) := ⟨_, rfl⟩
  have HEN := Lib.hid hen
  rw [← hen] at CE
  clear hen
  unfold RecV.cells at CR ⊢
  dsimp only at CR ⊢
  obtain ⟨np, hnp⟩ : ∃ n, n = P.length := ⟨_, rfl⟩
  obtain ⟨nq, hnq⟩ : ∃ n, n = Q.length := ⟨_, rfl⟩
  rw [← hnp, ← hnq] at CR ⊢
  have HNP := Lib.hid hnp
  have HNQ := Lib.hid hnq
  clear hnp hnq
  cases en with
  | false =>
    have R3 := Lib.hid ((Turn.alloc [] w2 (.cells #[.int .i64 kd, .int .i64 t, .int .i64 d, .bool y, .slice ap np cp, .slice aq nq cq] 100)).heap R2.out (by simp))
    obtain ⟨W, hW⟩ : ∃ W, W = w2.alloc (.cells #[.int .i64 kd, .int .i64 t, .int .i64 d, .bool y, .slice ap np cp, .slice aq nq cq] 100) := ⟨_, rfl⟩
    have TW : Hid (Turn [] w W) := Lib.hid (by rw [hW]; exact T2.out.trans (Turn.alloc [] w2 _) (by simp))
    rw [← hW] at R3
    have z0 := cell_at (i := 0) R3.out rfl
    have z1 := cell_at (i := 1) R3.out rfl
    have z2 := cell_at (i := 2) R3.out rfl
    have z3 := cell_at (i := 3) R3.out rfl
    have z4 := cell_at (i := 4) R3.out rfl
    have z5 := cell_at (i := 5) R3.out rfl
    have fz : ∀ i, W.frozen? ⟨w.heap.size, i, none⟩ = false := fun i => unfrozen_of R3.out
    rw [hW] at z0 z1 z2 z3 z4 z5 fz
    have HW := Lib.hid hW
    clear hW
    go_wp2_with fail
    refine (CE.out _ (I3.out _)).mono ?_
    rintro e w3 ⟨rfl, rfl⟩
    go_wp2_with fail
    rw [← HW.out]
    refine bodyPost_ret_by (results_row_tmp rfl _ _ w.heap.size 100 _ (0, 0) _ rfl (six_stores' R3.out _ _ _ _ _ _) Tryz.underlying100 rfl recsize) rfl ?_
    refine ⟨recNone, none, 0, none, 0, 1, rfl, .inl ⟨rfl, rfl, rfl⟩, .inl ⟨rfl, rfl, rfl⟩, recNone_fit', (by intro A h; cases h), (by intro A h; cases h), TW.out.trans (six_turn' W w.heap.size _ _ _ _ _ _) (fun i hi => .inr (by simp at hi; omega)), .inr ⟨rfl, rfl, fun r hr e => ?_⟩⟩
    have := HU.out r hr e
    injection this with _ h2
    injection h2 with h2 h3
    have := HEN.out
    rw [h2, h3] at this
    simp at this
  | true =>
    have hend : bx = false ∧ lx = [] := by have := HEN.out; simpa using this.symm
    obtain ⟨hbx, hlx⟩ := hend
    subst hbx hlx
    have HBY := Lib.hid (HS.out rfl)
    have HUU : Hid (∀ r, recB r = true → recBytes r = l → recB ⟨kd, t, d, y, P, Q⟩ = true) := Lib.hid (fun r hr e => by
      have := HU.out r hr e
      injection this with h1 _
      rw [h1]; exact hr)
    have R3 : Hid (∀ w4, Turn [] (w2.alloc (.cells #[.int .i64 kd, .int .i64 t, .int .i64 d, .bool y, .slice ap np cp, .slice aq nq cq] 100)) w4 → w4.heap[w.heap.size]? = some (.cells #[.int .i64 0, .int .i64 0, .int .i64 0, .bool false, .slice none 0 0, .slice none 0 0] 100) ∧ w4.heap[w2.heap.size]? = some (.cells #[.int .i64 kd, .int .i64 t, .int .i64 d, .bool y, .slice ap np cp, .slice aq nq cq] 100) ∧ Turn [] w2 w4) := Lib.hid (fun w4 t4 =>
      ⟨t4.heap ((Turn.alloc [] w2 _).heap R2.out (by simp)) (by simp), t4.heap (heap_alloc_new w2 _) (by simp), (Turn.alloc [] w2 _).trans t4 (by simp)⟩)
    go_wp2_with fail
    refine (CE.out _ (I3.out _)).mono ?_
    rintro e w3 ⟨rfl, rfl⟩
    go_wp2_with fail
    refine (CR.out _ (Turn.alloc [] w2 _)).mono ?_
    rintro e w4 ⟨rfl, t4⟩
    obtain ⟨r3, r4, tt4⟩ := R3.out w4 t4
    have A3 := Lib.hid r3
    have A4 := Lib.hid tt4
    have TW := Lib.hid (T2.out.trans tt4 (by simp))
    have z0 := cell_at (i := 0) r3 rfl
    have z1 := cell_at (i := 1) r3 rfl
    have z2 := cell_at (i := 2) r3 rfl
    have z3 := cell_at (i := 3) r3 rfl
    have z4 := cell_at (i := 4) r3 rfl
    have z5 := cell_at (i := 5) r3 rfl
    have c0 := cell_at (i := 0) r4 rfl
    have c1 := cell_at (i := 1) r4 rfl
    have c2 := cell_at (i := 2) r4 rfl
    have c3 := cell_at (i := 3) r4 rfl
    have c4 := cell_at (i := 4) r4 rfl
    have c5 := cell_at (i := 5) r4 rfl
    have fz : ∀ i, w4.frozen? ⟨w.heap.size, i, none⟩ = false := fun i => unfrozen_of r3
    obtain ⟨rb, hrb⟩ : ∃ rb, rb = recB ⟨kd, t, d, y, P, Q⟩ := ⟨_, rfl⟩
    have HRB := Lib.hid hrb
    rw [← hrb]
    clear t4 r3 r4 tt4 CR CE hrb
    cases rb with
    | false =>
      go_wp2_with fail
      refine bodyPost_ret_by (results_row_tmp rfl _ _ w.heap.size 100 _ (0, 0) _ rfl (six_stores' A3.out _ _ _ _ _ _) Tryz.underlying100 rfl recsize) rfl ?_
      refine ⟨recNone, none, 0, none, 0, 1, rfl, .inl ⟨rfl, rfl, rfl⟩, .inl ⟨rfl, rfl, rfl⟩, recNone_fit', (by intro A h; cases h), (by intro A h; cases h), TW.out.trans (six_turn' w4 w.heap.size _ _ _ _ _ _) (fun i hi => .inr (by simp at hi; omega)), .inr ⟨rfl, rfl, fun r hr e => ?_⟩⟩
      have := HUU.out r hr e
      rw [← HRB.out] at this
      cases this
    | true =>
      go_wp2_with fail
      refine bodyPost_ret_by (results_row_tmp rfl _ _ w.heap.size 100 _ (0, 0) _ rfl (six_stores' A3.out _ _ _ _ _ _) Tryz.underlying100 rfl recsize) rfl ?_
      have ts := fun u0 u1 u2 u3 u4 u5 => (A4.out.mono (l' := [w.heap.size]) (by simp)).trans (six_turn' w4 w.heap.size u0 u1 u2 u3 u4 u5) (fun i hi => .inl hi)
      rw [HNP.out, HNQ.out]
      refine ⟨⟨kd, t, d, y, P, Q⟩, ap, cp, aq, cq, 0, rfl, own_il (ownsRow_turn OP.out (ts _ _ _ _ _ _) (fun k hk => by have := LP.out k hk; simp; omega)) HP.out, own_ps (ownsRow_turn OQ.out (ts _ _ _ _ _ _) (fun k hk => by have := LQ.out k hk; simp; omega)) HQ.out, HF.out,
        own_low OP.out (fun k hk => by have := LP.out k hk; omega), own_low OQ.out (fun k hk => by have := LQ.out k hk; omega), TW.out.trans (six_turn' w4 w.heap.size _ _ _ _ _ _) (fun i hi => .inr (by simp at hi; omega)), .inl ⟨rfl, HRB.out.symm, HBY.out⟩⟩

end Go.Proofs.YtjmainefmiefcaaGreat


/-
  The walks of rec's Eq and of the library's Equal that it calls.
-/
namespace Go.Proofs.YtjmainefmiefcaaGreat
open Go.RowKit

set_option maxHeartbeats 1000000 in
set_option maxRecDepth 100000 in
theorem sameInts_calls {w : World} {a1 a2 : Option Addr} {c1 c2 : Nat} {l m : List Int} (h1 : Il w a1 c1 l) (h2 : Il w a2 c2 m) : Calls Tryz.prog 101 #[.slice a1 l.length c1, .slice a2 m.length c2] w fun e w' => e = .returned (.bool (decide (l = m))) ∧ ∃ d, w' = w.drewN d := by
  have hlen1 := h1.len
  have hlen2 := h2.len
  by_cases hlm : l.length = m.length
  · have H1 := Lib.hid h1
    have H2 := Lib.hid h2
    rw [← hlm] at hlen2 ⊢
    obtain ⟨n, hn⟩ : ∃ n, n = l.length := ⟨_, rfl⟩
    have HN := Lib.hid hn
    have HLM := Lib.hid hlm
    rw [← hn] at hlen1 hlen2 ⊢
    obtain ⟨ans, ha⟩ : ∃ ans, ans = decide (l = m) := ⟨_, rfl⟩
    have HA := Lib.hid ha
    rw [← ha]
    clear h1 h2 hn hlm ha
    go_enter Tryz.func101, Tryz.ntmps101
    go_wp2_with fail
    go_loopw [13] (fun vi wx => ∃ k : Nat, k ≤ n ∧ vi = .int .i64 (k : Int) ∧ (∀ i, i < k → l.getD i 0 = m.getD i 0) ∧ ∃ d, wx = w.drewN d) (fun vi _ => n - (intOf vi).toNat)
    case atStart => exact ⟨0, by omega, rfl, fun i hi => by omega, 0, rfl⟩
    case round =>
      obtain ⟨k, hk, rfl, hall, d, rfl⟩ := hrel
      have HS := Lib.hid hall
      clear hall
      by_cases hkn : k < n
      · have hkl : k < l.length := by rw [← HN.out]; exact hkn
        have hkm : k < m.length := by rw [← HLM.out]; exact hkl
        obtain ⟨b1, o1, rfl, -, hat1⟩ := H1.out.at (by intro e; rw [e] at hkl; simp at hkl)
        obtain ⟨b2, o2, rfl, -, hat2⟩ := H2.out.at (by intro e; rw [e] at hkm; simp at hkm)
        have q1 := hat1 k hkl
        have q2 := hat2 k hkm
        have hb : 0 ≤ (k : Int) ∧ (k : Int) < (n : Int) := by omega
        by_cases hxy : l.getD k 0 = m.getD k 0
        · have HS2 : Hid (∀ i, i < k + 1 → l.getD i 0 = m.getD i 0) := Lib.hid (fun i hi => by
            by_cases e : i = k
            · rw [e]; exact hxy
            · exact HS.out i (by omega))
          rw [hxy] at q1
          obtain ⟨y, hy⟩ : ∃ y, y = m.getD k 0 := ⟨_, rfl⟩
          rw [← hy] at q1 q2
          clear hat1 hat2 hxy hy HS
          go_wp2_with fail
          go_quiet (fail)
          go_wp2
          go_roundw
          case rel => exact ⟨k + 1, by omega, by go_num, HS2.out, _, rfl⟩
          case measure => simp [intOf]; omega
        · have HF : Hid (ans = false) := Lib.hid (by rw [HA.out]; exact decide_eq_false (fun e => hxy (by rw [e])))
          obtain ⟨x, hx⟩ : ∃ x, x = l.getD k 0 := ⟨_, rfl⟩
          obtain ⟨y, hy⟩ : ∃ y, y = m.getD k 0 := ⟨_, rfl⟩
          rw [← hx] at q1 hxy
          rw [← hy] at q2 hxy
          have hne : (x != y) = true := by simpa using hxy
          clear hat1 hat2 hx hy HS
          go_wp2_with fail
          go_quiet (fail)
          go_wp2
          go_ret
          exact ⟨ret_bool HF.out.symm, _, World.drewN_drewN _ _ _⟩
      · have hkk : k = n := by omega
        have HF : Hid (ans = true) := Lib.hid (by
          rw [HA.out]
          exact decide_eq_true (list_same HLM.out (by rw [← HN.out, ← hkk]; exact HS.out)))
        clear HS
        go_wp2
        go_ret
        exact ⟨ret_bool HF.out.symm, _, rfl⟩
  · have HF : Hid (decide (l = m) = false) := Lib.hid (decide_eq_false (fun e => hlm (by rw [e])))
    have hne : ((l.length : Int) != (m.length : Int)) = true := by simp; omega
    obtain ⟨n, hn⟩ : ∃ n, n = l.length := ⟨_, rfl⟩
    obtain ⟨n2, hn2⟩ : ∃ n, n = m.length := ⟨_, rfl⟩
    rw [HF.out]
    rw [← hn, ← hn2] at hne
    rw [← hn, ← hn2]
    clear h1 h2 hlm hlen1 hlen2 hn hn2
    go_enter Tryz.func101, Tryz.ntmps101
    go_wp2
    go_ret
    exact ⟨rfl, 0, rfl⟩

set_option maxHeartbeats 2000000 in
set_option maxRecDepth 100000 in
theorem samePuts_calls {w : World} {a1 a2 : Option Addr} {c1 c2 : Nat} {l m : List (ByteArray × ByteArray)} (h1 : Ps w a1 c1 l) (h2 : Ps w a2 c2 m) : Calls Tryz.prog 102 #[.slice a1 l.length c1, .slice a2 m.length c2] w fun e w' => e = .returned (.bool (decide (l = m))) ∧ ∃ d, w' = w.drewN d := by
  have hlen1 := h1.len
  have hlen2 := h2.len
  by_cases hlm : l.length = m.length
  · have H1 := Lib.hid h1
    have H2 := Lib.hid h2
    rw [← hlm] at hlen2 ⊢
    obtain ⟨n, hn⟩ : ∃ n, n = l.length := ⟨_, rfl⟩
    have HN := Lib.hid hn
    have HLM := Lib.hid hlm
    rw [← hn] at hlen1 hlen2 ⊢
    obtain ⟨ans, ha⟩ : ∃ ans, ans = decide (l = m) := ⟨_, rfl⟩
    have HA := Lib.hid ha
    rw [← ha]
    clear h1 h2 hn hlm ha
    go_enter Tryz.func102, Tryz.ntmps102
    go_wp2_with fail
    go_loopw [13] (fun vi wx => ∃ k : Nat, k ≤ n ∧ vi = .int .i64 (k : Int) ∧ (∀ i, i < k → l.getD i putNone = m.getD i putNone) ∧ ∃ d, wx = w.drewN d) (fun vi _ => n - (intOf vi).toNat)
    case atStart => exact ⟨0, by omega, rfl, fun i hi => by omega, 0, rfl⟩
    case round =>
      obtain ⟨k, hk, rfl, hall, d, rfl⟩ := hrel
      have HS := Lib.hid hall
      clear hall
      by_cases hkn : k < n
      · have hkl : k < l.length := by rw [← HN.out]; exact hkn
        have hkm : k < m.length := by rw [← HLM.out]; exact hkl
        obtain ⟨b1, o1, rfl, -, hat1⟩ := H1.out.at (by intro e; rw [e] at hkl; simp at hkl)
        obtain ⟨b2, o2, rfl, -, hat2⟩ := H2.out.at (by intro e; rw [e] at hkm; simp at hkm)
        obtain ⟨q1, q2, -, -⟩ := hat1 k hkl
        obtain ⟨q3, q4, -, -⟩ := hat2 k hkm
        have hb : 0 ≤ (k : Int) ∧ (k : Int) < (n : Int) := by omega
        obtain ⟨p1, hp1⟩ : ∃ p, p = l.getD k putNone := ⟨_, rfl⟩
        obtain ⟨p2, hp2⟩ : ∃ p, p = m.getD k putNone := ⟨_, rfl⟩
        have HF : Hid (p1 ≠ p2 → ans = false) := Lib.hid (fun h => by rw [HA.out]; exact decide_eq_false (fun e => h (by rw [hp1, hp2, e])))
        have HS2 : Hid (p1 = p2 → ∀ i, i < k + 1 → l.getD i putNone = m.getD i putNone) := Lib.hid (fun h i hi => by
          by_cases e : i = k
          · rw [e, ← hp1, ← hp2]; exact h
          · exact HS.out i (by omega))
        rw [← hp1] at q1 q2
        rw [← hp2] at q3 q4
        obtain ⟨x1, y1⟩ := p1
        obtain ⟨x2, y2⟩ := p2
        clear hat1 hat2 hp1 hp2 HS
        dsimp only at q1 q2 q3 q4
        by_cases hx : x1 = x2
        · subst hx
          by_cases hy : y1 = y2
          · subst hy
            have HS3 := Lib.hid (HS2.out rfl)
            clear HS2 HF
            go_wp2_with fail
            go_quiet (fail)
            go_wp2
            go_roundw
            case rel => exact ⟨k + 1, by omega, by go_num, HS3.out, _, rfl⟩
            case measure => simp [intOf]; omega
          · have HF2 := Lib.hid (HF.out (fun e => hy (by cases e; rfl)))
            have hne := txt_ne hy
            clear HS2 HF hy
            go_wp2_with fail
            go_quiet (fail)
            go_wp2
            go_ret
            exact ⟨ret_bool HF2.out.symm, _, World.drewN_drewN _ _ _⟩
        · have HF2 := Lib.hid (HF.out (fun e => hx (by cases e; rfl)))
          have hne := txt_ne hx
          clear HS2 HF hx
          go_wp2_with fail
          go_quiet (fail)
          go_wp2
          go_ret
          exact ⟨ret_bool HF2.out.symm, _, World.drewN_drewN _ _ _⟩
      · have hkk : k = n := by omega
        have HF : Hid (ans = true) := Lib.hid (by
          rw [HA.out]
          exact decide_eq_true (list_same HLM.out (by rw [← HN.out, ← hkk]; exact HS.out)))
        clear HS
        go_wp2
        go_ret
        exact ⟨ret_bool HF.out.symm, _, rfl⟩
  · have HF : Hid (decide (l = m) = false) := Lib.hid (decide_eq_false (fun e => hlm (by rw [e])))
    have hne : ((l.length : Int) != (m.length : Int)) = true := by simp; omega
    obtain ⟨n, hn⟩ : ∃ n, n = l.length := ⟨_, rfl⟩
    obtain ⟨n2, hn2⟩ : ∃ n, n = m.length := ⟨_, rfl⟩
    rw [HF.out]
    rw [← hn, ← hn2] at hne
    rw [← hn, ← hn2]
    clear h1 h2 hlm hlen1 hlen2 hn hn2
    go_enter Tryz.func102, Tryz.ntmps102
    go_wp2
    go_ret
    exact ⟨rfl, 0, rfl⟩

set_option maxHeartbeats 4000000 in
set_option maxRecDepth 100000 in
theorem eq_calls (a b : RecV) {w : World} {p1 q1 p2 q2 : Option Addr} {c1 e1 c2 e2 : Nat} (hp1 : Il w p1 c1 a.parts) (hq1 : Ps w q1 e1 a.puts) (hp2 : Il w p2 c2 b.parts) (hq2 : Ps w q2 e2 b.puts) :
    Calls Tryz.prog 75 #[.agg (a.cells p1 c1 q1 e1), .agg (b.cells p2 c2 q2 e2)] w fun e w' => e = .returned (.bool (eqRecB a b)) ∧ Turn [] w w' := by
  obtain ⟨k1, t1, d1, y1, P1, Q1⟩ := a
  obtain ⟨k2, t2, d2, y2, P2, Q2⟩ := b
  have hp1 : Il w p1 c1 P1 := hp1
  have hq1 : Ps w q1 e1 Q1 := hq1
  have hp2 : Il w p2 c2 P2 := hp2
  have hq2 : Ps w q2 e2 Q2 := hq2
  have CI : Hid (∀ wx, Turn [] w wx → Calls Tryz.prog 101 #[.slice p1 P1.length c1, .slice p2 P2.length c2] wx fun e w' => e = .returned (.bool (decide (P1 = P2))) ∧ ∃ d, w' = wx.drewN d) := Lib.hid (fun wx tw => sameInts_calls (hp1.turn tw) (hp2.turn tw))
  have CP : Hid (∀ wx, Turn [] w wx → Calls Tryz.prog 102 #[.slice q1 Q1.length e1, .slice q2 Q2.length e2] wx fun e w' => e = .returned (.bool (decide (Q1 = Q2))) ∧ ∃ d, w' = wx.drewN d) := Lib.hid (fun wx tw => samePuts_calls (hq1.turn tw) (hq2.turn tw))
  have HE : Hid (eqRecB ⟨k1, t1, d1, y1, P1, Q1⟩ ⟨k2, t2, d2, y2, P2, Q2⟩ = (decide (k1 = k2) && (decide (t1 = t2) && (decide (d1 = d2) && (decide (y1 = y2) && (decide (P1 = P2) && decide (Q1 = Q2))))))) := Lib.hid rfl
  obtain ⟨ans, ha⟩ : ∃ ans, ans = eqRecB ⟨k1, t1, d1, y1, P1, Q1⟩ ⟨k2, t2, d2, y2, P2, Q2⟩ := ⟨_, rfl⟩
  obtain ⟨r1, h1⟩ : ∃ r, r = decide (P1 = P2) := ⟨_, rfl⟩
  obtain ⟨r2, h2⟩ : ∃ r, r = decide (Q1 = Q2) := ⟨_, rfl⟩
  rw [← h1] at CI HE
  rw [← h2] at CP HE
  rw [← ha] at HE ⊢
  unfold RecV.cells
  show Calls _ _ #[.agg #[.int .i64 k1, .int .i64 t1, .int .i64 d1, .bool y1, .slice p1 P1.length c1, .slice q1 Q1.length e1], .agg #[.int .i64 k2, .int .i64 t2, .int .i64 d2, .bool y2, .slice p2 P2.length c2, .slice q2 Q2.length e2]] _ _
  obtain ⟨n1, hn1⟩ : ∃ n, n = P1.length := ⟨_, rfl⟩
  obtain ⟨n2, hn2⟩ : ∃ n, n = Q1.length := ⟨_, rfl⟩
  obtain ⟨n3, hn3⟩ : ∃ n, n = P2.length := ⟨_, rfl⟩
  obtain ⟨n4, hn4⟩ : ∃ n, n = Q2.length := ⟨_, rfl⟩
  rw [← hn1, ← hn3] at CI
  rw [← hn2, ← hn4] at CP
  rw [← hn1, ← hn2, ← hn3, ← hn4]
  have T2 : ∀ o o', Turn [] w ((w.alloc o).alloc o') := fun o o' => (Turn.alloc [] w o).trans (Turn.alloc [] _ o') (by simp)
  have HT2 := Lib.hid T2
  clear hp1 hq1 hp2 hq2 ha h1 h2 hn1 hn2 hn3 hn4 T2
  by_cases hk : k1 = k2
  · by_cases ht : t1 = t2
    · by_cases hd : d1 = d2
      · by_cases hy : y1 = y2
        · subst hk ht hd hy
          have HE2 : Hid (ans = (r1 && r2)) := Lib.hid (by rw [HE.out]; simp)
          clear HE
          cases r1 with
          | true =>
            go_enter Tryz.func75, Tryz.ntmps75
            go_wp2_with fail
            refine (CI.out _ (HT2.out _ _)).mono ?_
            rintro e w1 ⟨rfl, dd, rfl⟩
            go_wp2_with fail
            refine (CP.out _ ((HT2.out _ _).trans (Turn.drewN [] _ dd) (by simp))).mono ?_
            rintro e w1 ⟨rfl, dd2, rfl⟩
            go_wp2
            go_ret
            exact ⟨ret_bool (by rw [HE2.out]; simp), (HT2.out _ _).trans (Turn.drewN [] _ _) (by simp)⟩
          | false =>
            go_enter Tryz.func75, Tryz.ntmps75
            go_wp2_with fail
            refine (CI.out _ (HT2.out _ _)).mono ?_
            rintro e w1 ⟨rfl, dd, rfl⟩
            go_wp2
            go_ret
            exact ⟨ret_bool (by rw [HE2.out]; simp), (HT2.out _ _).trans (Turn.drewN [] _ dd) (by simp)⟩
        · have HA : Hid (ans = false) := Lib.hid (by rw [HE.out]; simp [hy])
          have f4 : (y1 == y2) = false := by simpa using hy
          subst hk ht hd
          clear HE hy
          go_enter Tryz.func75, Tryz.ntmps75
          go_wp2
          all_goals go_ret
          all_goals exact ⟨ret_bool HA.out.symm, HT2.out _ _⟩
      · have HA : Hid (ans = false) := Lib.hid (by rw [HE.out]; simp [hd])
        have f3 : (d1 == d2) = false := by simpa using hd
        subst hk ht
        clear HE hd
        go_enter Tryz.func75, Tryz.ntmps75
        go_wp2
        all_goals go_ret
        all_goals exact ⟨ret_bool HA.out.symm, HT2.out _ _⟩
    · have HA : Hid (ans = false) := Lib.hid (by rw [HE.out]; simp [ht])
      have f2 : (t1 == t2) = false := by simpa using ht
      subst hk
      clear HE ht
      go_enter Tryz.func75, Tryz.ntmps75
      go_wp2
      all_goals go_ret
      all_goals exact ⟨ret_bool HA.out.symm, HT2.out _ _⟩
  · have HA : Hid (ans = false) := Lib.hid (by rw [HE.out]; simp [hk])
    have f1 : (k1 == k2) = false := by simpa using hk
    clear HE hk
    go_enter Tryz.func75, Tryz.ntmps75
    go_wp2
    all_goals go_ret
    all_goals exact ⟨ret_bool HA.out.symm, HT2.out _ _⟩

end Go.Proofs.YtjmainefmiefcaaGreat


/-
  The contracts of package rec, whole.
-/
namespace Go.Proofs.YtjmainefmiefcaaGreat
open Go.RowKit

theorem recFace : RecFace where
  enc := fun r w ap cp aq cq hp hq hf => encode_calls r w ap cp aq cq hp hq hf
  dec := fun l w ao c h => decode_calls l w ao c h
  eq := fun a b _ _ _ _ _ _ _ _ _ h1 h2 h3 h4 => eq_calls a b h1 h2 h3 h4

end Go.Proofs.YtjmainefmiefcaaGreat


/-
  begun, of the landed program.
-/
namespace Go.Proofs.YtjmainefmiefcaaGreat
open Go.RowKit

theorem begun13_ok : BegunOk := begun13_calls Ss.sf_is recFace

end Go.Proofs.YtjmainefmiefcaaGreat


/-
  What opens the arguments of the laws of sess: slices of ints.
-/
namespace Go.Proofs.YtjmainefmiefcaaGreat
open Go.RowKit Go.ChangeShapes Go.WideShapes Go.ChangeAt Go.Deep

theorem open_nums13 {H : Type} {enc : TypeId × Value → H} {W : World} {a : Option Addr} {len cap : Nat} {d : DataW H} {p : List MemPlace}
    (h : DataW.Trod enc Tryz.prog W 0 (fun _ => true) true 62 (.slice a len cap) d p) : ∃ l : List Int, len = l.length ∧ Il W a cap l := by
  obtain ⟨fuel, hf⟩ := h
  rcases open_ints Tryz.underlying62 Tryz.underlying3 (by kernel_rfl) hf with ⟨hcs, _⟩ | ⟨x, l, c, zs, hcs, _, hl, hm, hz, _, hcell, hwz⟩
  · simp [Value.cells] at hcs
    obtain ⟨rfl, rfl, rfl⟩ := hcs
    exact ⟨[], rfl, .inl ⟨rfl, rfl, rfl⟩⟩
  · simp [Value.cells] at hcs
    obtain ⟨rfl, rfl, rfl⟩ := hcs
    simp only [if_true] at hz
    refine ⟨zs.take len, by simp; omega, .inr ⟨x, rfl, by simp; omega, hm, fun i hi => ?_, fun n hn => bounds_i64 (hwz n (List.mem_of_mem_take hn))⟩⟩
    have hi2 : i < len := by simp at hi; omega
    rw [hcell i (by omega)]
    simp [List.getD, hi2]

end Go.Proofs.YtjmainefmiefcaaGreat


/-
  A Sessions and some blocks of a law's own beside it; a row of numbers that grows.
-/
namespace Go.Proofs.YtjmainefmiefcaaGreat
open Go.RowKit

variable {Ses : World → List Nat → Nat → Int → Nat → Int → Nat → List Sq → Prop}

/-- The Sessions and some blocks of the law's own: none is another one's. -/
def So (Ses : World → List Nat → Nat → Int → Nat → Int → Nat → List Sq → Prop) (w wx : World) (el : List Nat) (b : Nat) (br : Int) (made : Nat) (ticks : Int) (nm : Nat) (S : List Sq) : Prop :=
  ∃ ow, Ses wx ow b br made ticks nm S ∧ (∀ k ∈ ow, w.heap.size ≤ k) ∧ (∀ k ∈ el, k ∉ ow ∧ w.heap.size ≤ k ∧ k < wx.heap.size) ∧ Below w.heap.size w wx

theorem So.bel {w wx : World} {el : List Nat} {b : Nat} {br : Int} {made : Nat} {ticks : Int} {nm : Nat} {S : List Sq} (h : So Ses w wx el b br made ticks nm S) : Below w.heap.size w wx := h.choose_spec.2.2.2

theorem So.start {w wx : World} {b : Nat} {br : Int} {made : Nat} {ticks : Int} {nm : Nat} {S : List Sq} (h : Sw Ses w wx b br made ticks nm S) : So Ses w wx [] b br made ticks nm S := by
  obtain ⟨ow, h1, h2, h3⟩ := h
  exact ⟨ow, h1, h2, by simp, h3⟩

theorem So.ris (F : SF Ses) {w wx : World} {el : List Nat} {b : Nat} {br : Int} {made : Nat} {ticks : Int} {nm : Nat} {S : List Sq} (h : So Ses w wx el b br made ticks nm S) : (S.Pairwise fun p q => p.id < q.id) ∧ (∀ q ∈ S, ∃ i : Nat, 1 ≤ i ∧ i ≤ made ∧ q.id = makeZ br (i : Int)) ∧ ∀ q ∈ S, 0 ≤ q.heard ∧ q.heard ≤ ticks := F.ris h.choose_spec.1

theorem So.quiet (F : SF Ses) {w wx w' : World} {el : List Nat} {b : Nat} {br : Int} {made : Nat} {ticks : Int} {nm : Nat} {S : List Sq} (h : So Ses w wx el b br made ticks nm S) (t : Turn [] wx w') : So Ses w w' el b br made ticks nm S := by
  obtain ⟨ow, h1, h2, h3, h4⟩ := h
  exact ⟨ow, F.turn h1 t (by simp), h2, fun k hk => ⟨(h3 k hk).1, (h3 k hk).2.1, Nat.lt_of_lt_of_le (h3 k hk).2.2 t.size⟩, h4.trans (t.belowAll.mono h4.size)⟩

/-- The law's other blocks turn, new ones come. -/
theorem So.extra (F : SF Ses) {w wx w' : World} {el el' l : List Nat} {b : Nat} {br : Int} {made : Nat} {ticks : Int} {nm : Nat} {S : List Sq} (h : So Ses w wx el b br made ticks nm S) (tt : Turn l wx w') (hl : ∀ k ∈ l, k ∈ el) (he : ∀ k ∈ el', (k ∈ el ∨ wx.heap.size ≤ k) ∧ k < w'.heap.size) : So Ses w w' el' b br made ticks nm S := by
  obtain ⟨ow, h1, h2, h3, h4⟩ := h
  refine ⟨_, F.turn (F.tight h1) tt (fun k hk hm => (h3 k (hl k hk)).1 (List.mem_filter.1 hm).1), fun k hk => h2 k (List.mem_filter.1 hk).1, fun k hk => ?_, h4.trans (tt.below (fun k hk => (h3 k (hl k hk)).2.1) h4.size)⟩
  obtain ⟨e1 | e1, e2⟩ := he k hk
  · exact ⟨fun hm => (h3 k e1).1 (List.mem_filter.1 hm).1, (h3 k e1).2.1, e2⟩
  · refine ⟨fun hm => ?_, Nat.le_trans h4.size e1, e2⟩
    have : k < wx.heap.size := by simpa using (List.mem_filter.1 hm).2
    omega

/-- A call of the Sessions. -/
theorem So.call {w wx : World} {el : List Nat} {b : Nat} {br br' : Int} {made made' : Nat} {tk tk' : Int} {ns ns' : Nat} {S S' : List Sq} (h : So Ses w wx el b br made tk ns S) {f : FuncId} {args : Array Value} {R : Ending → World → Prop}
    (hc : ∀ os, Ses wx os b br made tk ns S → Calls Tryz.prog f args wx (fun e w' => ∃ os', R e w' ∧ Ses w' os' b br' made' tk' ns' S' ∧ Stp os os' wx w')) : Calls Tryz.prog f args wx (fun e w' => R e w' ∧ So Ses w w' el b br' made' tk' ns' S' ∧ Off el wx w') := by
  obtain ⟨ow, h1, h2, h3, h4⟩ := h
  refine (hc _ h1).mono ?_
  rintro e w' ⟨os', hR, hS, hs⟩
  refine ⟨hR, ⟨os', hS, fun k hk => ?_, fun k hk => ⟨fun hm => ?_, (h3 k hk).2.1, Nat.lt_of_lt_of_le (h3 k hk).2.2 hs.turn.size⟩, h4.trans (hs.turn.below h2 h4.size)⟩, ⟨ow, hs.turn, fun k hk => (h3 k hk).1⟩⟩
  · rcases hs.new k hk with e1 | e1
    · exact h2 k e1
    · exact Nat.le_trans h4.size e1
  · rcases hs.new k hm with e1 | e1
    · exact (h3 k hk).1 e1
    · have := (h3 k hk).2.2
      omega

/-- The law's own row of numbers grows; other blocks (xl) stay. -/
theorem So.grow (F : SF Ses) {w wx w' : World} {xl : List Nat} {b : Nat} {br : Int} {made : Nat} {ticks : Int} {nm : Nat} {S : List Sq} {B : Nat} {e : TypeId} {v v' : Value} {n' : Nat} {xs' : List Value} (h : So Ses w wx (xl ++ v.ownBlock.toList) b br made ticks nm S) (g : wx.grownBy w' v.ownBlock)
    (hr' : w'.ownsRow B e 1 v' n' xs') (ho : v'.ownBlock = v.ownBlock ∨ v'.ownBlock = some wx.heap.size) : So Ses w w' (xl ++ v'.ownBlock.toList) b br made ticks nm S := by
  have t : Turn v.ownBlock.toList wx w' := Turn.grown (l := v.ownBlock.toList) g (fun i hi => .inl (by simp [hi]))
  have hx : ∀ k ∈ xl, k < wx.heap.size := fun k hk => by
    obtain ⟨ow, h1, h2, h3, h4⟩ := h
    exact (h3 k (List.mem_append_left _ hk)).2.2
  refine h.extra F t (fun k hk => List.mem_append_right _ hk) (fun k hk => ?_)
  rcases List.mem_append.1 hk with hk | hk
  · exact ⟨.inl (List.mem_append_left _ hk), Nat.lt_of_lt_of_le (hx k hk) t.size⟩
  · have hl := (hr'.lt _ (Option.mem_toList.1 hk)).2
    rcases ho with ho | ho
    · rw [ho] at hk
      exact ⟨.inl (List.mem_append_right _ hk), hl⟩
    · rw [ho] at hk
      have : k = wx.heap.size := by simpa using hk
      exact ⟨.inr (by omega), hl⟩

/-- An append onto an own row, and whose block the answer is, in a region that keeps its order. -/
theorem append_srcO {n E T bytes : Nat} {i0 : TypeInfo} {z : Value} (ht : Tryz.prog.underlying T = some (.slice E)) (hi : Tryz.prog.info? E = some i0) (hz : i0.zero = some z) (hsize : i0.size = n) (hby : i0.bytes = bytes) (hzs : z.cells.size = n) (hn : 0 < n)
    {ops : Array Oper} {rest : List Oper} {o : Oper} {a : Act} {w : World} {Q : Exit → Act → World → Prop} (hgd : o.guard = none) (s x : Operand)
    (ho : o.op = .call { callee := .builtin .append, args := #[s, x], argTypes := #[T, T] })
    (B : Nat) (v : Value) (m0 : Nat) (xs0 : List Value) (hs : a.eval s = v) (hown : w.ownsRow B E n v m0 xs0) (hB : B ≤ w.heap.size)
    (ao : Option Addr) (m c : Nat) (xs : List Value) (hx : a.eval x = .slice ao m c) (hsrc : Src n w ao m c xs) (hone : ∀ u ∈ xs, u.oneCell' = true) (hlen : (m0 + m) * bytes ≤ 140737488355328) (hml : m0 + m ≤ 2000000)
    (h : ∀ v' w', w'.ownsRow B E n v' (m0 + m) (xs0 ++ xs) → w.grownBy w' v.ownBlock → (v'.ownBlock = v.ownBlock ∨ v'.ownBlock = some w.heap.size) → wpList Tryz.prog ops Q rest (a.put o.dst v') w') : wpList Tryz.prog ops Q (o :: rest) a w := by
  rcases hsrc with ⟨rfl, rfl, rfl, rfl⟩ | ⟨A, rfl, h2, h3⟩
  · exact wpList_append_own_none hgd s x T ho B E i0 n ht hi v m0 xs0 hs hown hx (h v w (by simpa using hown) (World.grownBy.refl _ _) (.inl rfl))
  · exact wpList_append_own_at w hgd s x T ho B E i0 z n bytes ht hi hz hsize hby hzs hn v m0 xs0 hs hown A m c xs hx h2 h3 hone (by unfold maxLen; omega) hlen hB (fun v' w' r g _ o => h v' w' r g o)

theorem Tryz.row14 : (Tryz.prog.info? 2).map (fun i => (i.zero, i.size, i.bytes)) = some (some (.int .i64 0), 1, 8) := by kernel_rfl

theorem src_one14 {w : World} {q : Nat} {v0 : Value} {T : TypeId} (h : w.heap[q]? = some (.cells #[v0] T)) : Src 1 w (some ⟨q, 0, none⟩) 1 1 [v0] := by
  refine .inr ⟨_, rfl, rfl, fun j z hj => ?_⟩
  rw [Addr.add_lit, cell_of_row _ _ _ _ _ _ h]
  simpa using hj

end Go.Proofs.YtjmainefmiefcaaGreat
