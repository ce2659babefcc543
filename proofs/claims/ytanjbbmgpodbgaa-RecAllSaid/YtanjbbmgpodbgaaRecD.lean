/-
  The walks of rec's readParts and readPuts.
-/
import Derived.Test.YtanjbbmgpodbgaaRecR
import Derived.Test.YtanjbbmgpodbgaaOwn8
import Derived.Test.YtanjbbmgpodbgaaLrecWalk
namespace Go.Proofs.Ytanjbbmgpodbgaa
open Go.RowKit

theorem grown_at {w w' : World} {b : Nat} (g : w.grownBy w' (some b)) : Turn [b] w w' := Turn.grown g (fun k hk => .inl (by injection hk with hk; simp [hk]))

theorem InIs.turn {w w' : World} {b : Nat} {l : List UInt8} {bad : Bool} {m : List Nat} (h : InIs w b l bad) (t : Turn m w w') (hm : b ∉ m) : InIs w' b l bad := h.same (t.block b h.lt hm)

/-- A row grows beside an In. -/
theorem row_beside {w wr w3 w5 : World} {o : Obj} {v v5 : Option Nat} {b : Nat} {l : List UInt8} {bad : Bool} (TR : Turn [b] w wr) (T3 : Turn [b] wr w3) (g : (w3.alloc o).grownBy w5 v) (HL : ∀ k, v = some k → w.heap.size ≤ k) (hb : b < w.heap.size) (I3 : InIs w3 b l bad)
    (l5 : v5 = v ∨ v5 = some (w3.alloc o).heap.size) : Turn [b] w w5 ∧ InIs w5 b l bad ∧ ∀ k, v5 = some k → w.heap.size ≤ k := by
  have ha : Turn v.toList (w3.alloc o) w5 := Turn.grown g (fun k hk => .inl (by simp [hk]))
  have hl : ∀ k ∈ v.toList, w.heap.size ≤ k := fun k hk => HL k (by simpa using hk)
  have h3 : Turn [b] w w3 := TR.trans T3 (fun i hi => .inl hi)
  have h4 : Turn [b] w (w3.alloc o) := h3.trans (Turn.alloc [] w3 o) (by simp)
  refine ⟨h4.trans ha (fun i hi => .inr (hl i hi)), (I3.turn (Turn.alloc [] w3 o) (by simp)).turn ha (fun hm => by have := hl b hm; omega), fun k hk => ?_⟩
  rcases l5 with h | h
  · exact HL k (h.symm.trans hk)
  · rw [h] at hk
    injection hk with hk
    have := h4.size
    omega

set_option maxHeartbeats 2000000 in
set_option maxRecDepth 100000 in
theorem readParts_calls (b : Nat) (l : List UInt8) (bad : Bool) (w : World) (h : InIs w b l bad) (X : List Int) (l' : List UInt8) (bad' : Bool) (hX : rdParts (leN (taken l bad 2)) (after l bad 2) (!canTake l bad 2) = (X, l', bad')) :
    Calls Try.prog 72 #[.pointer (some ⟨b, 0, none⟩)] w fun e w' => ∃ ao c, e = .returned (.slice ao X.length c) ∧ w'.ownsRow 0 3 1 (.slice ao X.length c) X.length (i64s X) ∧
      (∀ k, (Value.slice ao X.length c).ownBlock = some k → w.heap.size ≤ k) ∧ InIs w' b l' bad' ∧ Turn [b] w w' := by
  have C1 := Lib.hid (small_in b l bad w h)
  have hlt := h.lt
  have hn := small_lt l bad
  obtain ⟨n0, hn0⟩ : ∃ n0, n0 = leN (taken l bad 2) := ⟨_, rfl⟩
  rw [← hn0] at C1 hn hX
  have HX := Lib.hid hX
  have HLT := Lib.hid hlt
  clear h hX hn0 hlt
  go_enter Try.func72, Try.ntmps72
  go_wp2_with fail
  refine C1.out.mono ?_
  rintro e w1 ⟨rfl, i1, g1⟩
  have I1 := Lib.hid i1
  have T1 := Lib.hid (grown_at g1)
  clear i1 g1 C1
  go_wp2_with fail
  go_loopw [3, 4] (fun v i wr => ∃ (n : Nat) (x : List Int) (lx : List UInt8) (bx : Bool), i = .int .i64 (n : Int) ∧ x.length + n ≤ n0 ∧ wr.ownsRow 0 3 1 v x.length (i64s x) ∧ (∀ g, v.ownBlock = some g → w.heap.size ≤ g) ∧ InIs wr b lx bx ∧
    (x ++ (rdParts n lx bx).1, (rdParts n lx bx).2) = (X, l', bad') ∧ Turn [b] w wr) (fun _ i _ => (intOf i).toNat)
  case atStart => exact ⟨n0, [], _, _, rfl, by simp, World.ownsRow_nil _ _ _ _, (by intro g hg; cases hg), I1.out, by rw [List.nil_append]; exact HX.out, T1.out⟩
  case round =>
    obtain ⟨n, x, lx, bx, rfl, hxn, hown, hlow, hin, hrd, tr⟩ := hrel
    have HO := Lib.hid hown
    have HL := Lib.hid hlow
    have HI := Lib.hid hin
    have TR := Lib.hid tr
    clear hown hlow hin tr
    cases n with
    | zero =>
      have hx : x = X := by
        have := congrArg Prod.fst hrd
        simpa [rdParts] using this
      have hl : (lx, bx) = (l', bad') := by
        have := congrArg Prod.snd hrd
        simpa [rdParts] using this
      injection hl with hl1 hl2
      subst hx hl1 hl2
      obtain ⟨ao, cp, hv, -⟩ := row_form HO.out
      subst hv
      clear hrd
      go_wp2
      go_ret
      exact ⟨ao, cp, rfl, HO.out, HL.out, HI.out, TR.out⟩
    | succ n =>
    cases bx with
    | true =>
      have hx : x = X := by
        have := congrArg Prod.fst hrd
        simpa [rdParts] using this
      have hl : (lx, true) = (l', bad') := by
        have := congrArg Prod.snd hrd
        simpa [rdParts] using this
      injection hl with hl1 hl2
      subst hx hl1 hl2
      obtain ⟨ao, cp, hv, -⟩ := row_form HO.out
      subst hv
      have hpos : (0 : Int) < ((n + 1 : Nat) : Int) := by omega
      clear hrd
      go_wp2_with fail
      refine (bad_calls b lx true _ HI.out).mono ?_
      rintro e w2 ⟨rfl, rfl⟩
      go_wp2
      go_ret
      exact ⟨ao, cp, rfl, HO.out, HL.out, HI.out, TR.out⟩
    | false =>
      unfold rdParts at hrd
      rw [if_neg (by simp)] at hrd
      have hpos : (0 : Int) < ((n + 1 : Nat) : Int) := by omega
      have hlen : x.length + 1 ≤ 1000000 := by omega
      have CS := Lib.hid (small_in b lx false wr HI.out)
      obtain ⟨y, hy⟩ : ∃ y, y = leN (taken lx false 2) := ⟨_, rfl⟩
      obtain ⟨ly, hly⟩ : ∃ ly, ly = after lx false 2 := ⟨_, rfl⟩
      obtain ⟨by_, hby⟩ : ∃ by_, by_ = !canTake lx false 2 := ⟨_, rfl⟩
      rw [← hy, ← hly, ← hby] at CS hrd
      have HR : Hid ((x ++ [(y : Int)] ++ (rdParts n ly by_).1, (rdParts n ly by_).2) = (X, l', bad')) := Lib.hid (by rw [List.append_assoc]; exact hrd)
      clear hrd hy hly hby
      go_wp2_with fail
      refine (bad_calls b lx false _ HI.out).mono ?_
      rintro e w2 ⟨rfl, rfl⟩
      go_wp2_with fail
      refine CS.out.mono ?_
      rintro e w3 ⟨rfl, i3, g3⟩
      have I3 := Lib.hid i3
      have T3 := Lib.hid (grown_at g3)
      have O3 := Lib.hid (ownsRow_turn HO.out T3.out (fun k hk hm => by have := HL.out k hk; have := HLT.out; simp at hm; omega))
      clear i3 g3 CS
      go_wp2_with
        (at_builtin
         (refine append_ints rfl (.tmp 16) (.tmp 19) rfl u3 x rfl (ownsRow_turn O3.out (Turn.alloc [] w3 _) (fun _ _ => by simp)) (some ⟨w3.heap.size, 0, none⟩) 1 1 [(y : Int)] rfl rfl (Sr.new w3 y _) (by simp; omega) ?_)
         intro v5 w5 o5 g5 l5
         have O5 := Lib.hid o5
         have A5 := Lib.hid (row_beside TR.out T3.out g5 HL.out HLT.out I3.out l5)
         clear o5 g5 l5)
      go_roundw
      case rel => exact ⟨n, x ++ [(y : Int)], ly, by_, by go_num, by simp; omega, O5.out, A5.out.2.2, A5.out.2.1, HR.out, A5.out.1⟩
      case measure => simp [intOf]

set_option maxHeartbeats 2000000 in
set_option maxRecDepth 100000 in
theorem readPuts_calls (b : Nat) (l : List UInt8) (bad : Bool) (w : World) (h : InIs w b l bad) (X : List (ByteArray × ByteArray)) (l' : List UInt8) (bad' : Bool) (hX : rdPuts (leN (taken l bad 2)) (after l bad 2) (!canTake l bad 2) = (X, l', bad')) :
    Calls Try.prog 73 #[.pointer (some ⟨b, 0, none⟩)] w fun e w' => ∃ ao c, e = .returned (.slice ao X.length c) ∧ w'.ownsRow 0 29 2 (.slice ao X.length c) X.length (pcells X) ∧
      (∀ k, (Value.slice ao X.length c).ownBlock = some k → w.heap.size ≤ k) ∧ InIs w' b l' bad' ∧ Turn [b] w w' := by
  have C1 := Lib.hid (small_in b l bad w h)
  have hlt := h.lt
  have hn := small_lt l bad
  obtain ⟨n0, hn0⟩ : ∃ n0, n0 = leN (taken l bad 2) := ⟨_, rfl⟩
  rw [← hn0] at C1 hn hX
  have HX := Lib.hid hX
  have HLT := Lib.hid hlt
  clear h hX hn0 hlt
  go_enter Try.func73, Try.ntmps73
  go_wp2_with fail
  refine C1.out.mono ?_
  rintro e w1 ⟨rfl, i1, g1⟩
  have I1 := Lib.hid i1
  have T1 := Lib.hid (grown_at g1)
  clear i1 g1 C1
  go_wp2_with fail
  go_loopw [3, 4] (fun v i wr => ∃ (n : Nat) (x : List (ByteArray × ByteArray)) (lx : List UInt8) (bx : Bool), i = .int .i64 (n : Int) ∧ x.length + n ≤ n0 ∧ wr.ownsRow 0 29 2 v x.length (pcells x) ∧ (∀ g, v.ownBlock = some g → w.heap.size ≤ g) ∧ InIs wr b lx bx ∧
    (x ++ (rdPuts n lx bx).1, (rdPuts n lx bx).2) = (X, l', bad') ∧ Turn [b] w wr) (fun _ i _ => (intOf i).toNat)
  case atStart => exact ⟨n0, [], _, _, rfl, by simp, World.ownsRow_nil _ _ _ _, (by intro g hg; cases hg), I1.out, by rw [List.nil_append]; exact HX.out, T1.out⟩
  case round =>
    obtain ⟨n, x, lx, bx, rfl, hxn, hown, hlow, hin, hrd, tr⟩ := hrel
    have HO := Lib.hid hown
    have HL := Lib.hid hlow
    have HI := Lib.hid hin
    have TR := Lib.hid tr
    clear hown hlow hin tr
    cases n with
    | zero =>
      have hx : x = X := by
        have := congrArg Prod.fst hrd
        simpa [rdPuts] using this
      have hl : (lx, bx) = (l', bad') := by
        have := congrArg Prod.snd hrd
        simpa [rdPuts] using this
      injection hl with hl1 hl2
      subst hx hl1 hl2
      obtain ⟨ao, cp, hv⟩ := put_form HO.out
      subst hv
      clear hrd
      go_wp2
      go_ret
      exact ⟨ao, cp, rfl, HO.out, HL.out, HI.out, TR.out⟩
    | succ n =>
    cases bx with
    | true =>
      have hx : x = X := by
        have := congrArg Prod.fst hrd
        simpa [rdPuts] using this
      have hl : (lx, true) = (l', bad') := by
        have := congrArg Prod.snd hrd
        simpa [rdPuts] using this
      injection hl with hl1 hl2
      subst hx hl1 hl2
      obtain ⟨ao, cp, hv⟩ := put_form HO.out
      subst hv
      have hpos : (0 : Int) < ((n + 1 : Nat) : Int) := by omega
      clear hrd
      go_wp2_with fail
      refine (bad_calls b lx true _ HI.out).mono ?_
      rintro e w2 ⟨rfl, rfl⟩
      go_wp2
      go_ret
      exact ⟨ao, cp, rfl, HO.out, HL.out, HI.out, TR.out⟩
    | false =>
      unfold rdPuts at hrd
      rw [if_neg (by simp)] at hrd
      have hpos : (0 : Int) < ((n + 1 : Nat) : Int) := by omega
      have hlen : x.length + 1 ≤ 1000000 := by omega
      have CS := Lib.hid (text_in b lx false wr HI.out)
      obtain ⟨y, hy⟩ : ∃ y : ByteArray, y = ⟨(textT lx false).toArray⟩ := ⟨_, rfl⟩
      obtain ⟨ly, hly⟩ : ∃ ly, ly = textA lx false := ⟨_, rfl⟩
      obtain ⟨by_, hby⟩ : ∃ by_, by_ = !textC lx false := ⟨_, rfl⟩
      rw [← hy, ← hly, ← hby] at CS hrd
      have CZ := Lib.hid (fun wx o => text_in b ly by_ wx o)
      obtain ⟨z, hz⟩ : ∃ z : ByteArray, z = ⟨(textT ly by_).toArray⟩ := ⟨_, rfl⟩
      obtain ⟨lz, hlz⟩ : ∃ lz, lz = textA ly by_ := ⟨_, rfl⟩
      obtain ⟨bz, hbz⟩ : ∃ bz, bz = !textC ly by_ := ⟨_, rfl⟩
      rw [← hz, ← hlz, ← hbz] at CZ hrd
      have HR : Hid ((x ++ [(y, z)] ++ (rdPuts n lz bz).1, (rdPuts n lz bz).2) = (X, l', bad')) := Lib.hid (by rw [List.append_assoc]; exact hrd)
      clear hrd hy hly hby hz hlz hbz
      go_wp2_with fail
      refine (bad_calls b lx false _ HI.out).mono ?_
      rintro e w2 ⟨rfl, rfl⟩
      go_wp2_with fail
      refine CS.out.mono ?_
      rintro e w2 ⟨rfl, i2, g2⟩
      have I2 := Lib.hid i2
      have T2 := Lib.hid (grown_at g2)
      clear i2 g2 CS
      go_wp2_with fail
      refine (CZ.out _ I2.out).mono ?_
      rintro e w3 ⟨rfl, i3, g3⟩
      have I3 := Lib.hid i3
      have T3 := Lib.hid (T2.out.trans (grown_at g3) (fun i hi => .inl hi))
      have O3 := Lib.hid (ownsRow_turn HO.out T3.out (fun k hk hm => by have := HL.out k hk; have := HLT.out; simp at hm; omega))
      clear i3 g3 CZ I2 T2
      go_wp2_with
        (at_builtin
         (refine append_put rfl (.tmp 16) (.tmp 22) rfl u3 x rfl (ownsRow_turn O3.out (Turn.alloc [] w3 _) (fun _ _ => by simp)) w3.heap.size (y, z) rfl (cell_new2 w3 _ _ _).1 (cell_new2 w3 _ _ _).2 (by omega) ?_)
         intro v5 w5 o5 g5 l5
         have O5 := Lib.hid o5
         have A5 := Lib.hid (row_beside TR.out T3.out g5 HL.out HLT.out I3.out l5)
         clear o5 g5 l5)
      go_roundw
      case rel => exact ⟨n, x ++ [(y, z)], lz, bz, by go_num, by simp; omega, O5.out, A5.out.2.2, A5.out.2.1, HR.out, A5.out.1⟩
      case measure => simp [intOf]

end Go.Proofs.Ytanjbbmgpodbgaa
