/-
  A record's bytes, as the document lays them; the walk of the reference's Bytes; what is asked of rec.
-/
import Derived.Test.YtanjbbmgpodbgaaKrc
import Derived.Test.YtanjbbmgpodbgaaRef
import Derived.Test.YtanjbbmgpodbgaaOpen8
import Derived.Test.YtanjbbmgpodbgaaRegInv
import Derived.Deep.RegionHeldLaw
import Derived.Maps.AppendAt
namespace Go.Proofs.Ytanjbbmgpodbgaa
open Go.RowKit

/-- Brokers, two bytes each. -/
def partsBy (l : List Int) : List UInt8 := l.flatMap smallB

/-- Puts: each its queue's text, its body's. -/
def putsBy (l : List (ByteArray × ByteArray)) : List UInt8 := l.flatMap fun p => textB p.1 ++ textB p.2

/-- What a record's kind adds. -/
def recTail (r : RecV) : List UInt8 :=
  if r.kind = 2 then longB r.id else if r.kind = 5 then [if r.yes then 1 else 0]
  else if r.kind = 6 ∨ r.kind = 8 ∨ r.kind = 9 then smallB r.parts.length ++ partsBy r.parts
  else if r.kind = 4 ∨ r.kind = 7 then smallB r.puts.length ++ putsBy r.puts else []

def recBytes (r : RecV) : List UInt8 := smallB r.kind ++ longB r.tid ++ recTail r

theorem partsBy_next {l : List Int} {k : Nat} (h : k < l.length) : partsBy (l.take (k + 1)) = partsBy (l.take k) ++ smallB (l.getD k 0) := by
  unfold partsBy
  rw [List.take_succ_eq_append_getElem h, List.flatMap_append]
  congr 1
  simp [List.getD, h]

theorem putsBy_next {l : List (ByteArray × ByteArray)} {k : Nat} (h : k < l.length) : putsBy (l.take (k + 1)) = putsBy (l.take k) ++ textB (l.getD k putNone).1 ++ textB (l.getD k putNone).2 := by
  unfold putsBy
  rw [List.take_succ_eq_append_getElem h, List.flatMap_append, List.append_assoc]
  congr 1
  simp [List.getD, h]

theorem smallB_len (n : Int) : (smallB n).length = 2 := rfl
theorem longB_len (n : Int) : (longB n).length = 8 := rfl

theorem partsBy_len (l : List Int) : (partsBy l).length = 2 * l.length := by
  induction l with
  | nil => rfl
  | cons x l ih => simp only [partsBy, List.flatMap_cons, List.length_append, List.length_cons] at ih ⊢; rw [ih, smallB_len]; omega

theorem textB_len (s : ByteArray) : (textB s).length ≤ 65537 + 1 := by
  unfold textB
  have : s.size % 65536 < 65536 := Nat.mod_lt _ (by omega)
  simp [smallB_len]
  omega

theorem putsBy_len (l : List (ByteArray × ByteArray)) : (putsBy l).length ≤ 131076 * l.length := by
  induction l with
  | nil => simp [putsBy]
  | cons x l ih =>
    have h1 := textB_len x.1
    have h2 := textB_len x.2
    simp only [putsBy, List.flatMap_cons, List.length_append, List.length_cons] at ih ⊢
    omega

/-- 'append(x, y...)' within a region that draws its order. -/
theorem step_append_b {ops : Array Oper} {o : Oper} {a : Act} {w : World} {K : Act → World → Prop} {Q : Exit → Act → World → Prop} {E : Prop} (hgd : o.guard = none) (s x : Operand)
    (ho : o.op = .call { callee := .builtin .append, args := #[s, x], argTypes := #[24, 24] })
    (v : Value) (l : List UInt8) (hs : a.eval s = v) (hown : w.ownsRow 0 5 1 v l.length (u8s l))
    (ao : Option Addr) (c : Nat) (l2 : List UInt8) (hx : a.eval x = .slice ao l2.length c) (hsl : Sl w ao c l2) (hb : l.length + l2.length ≤ 140737488355328)
    (h : ∀ v' w', w'.ownsRow 0 5 1 v' (l ++ l2).length (u8s (l ++ l2)) → w.grownBy w' v.ownBlock → (v'.ownBlock = v.ownBlock ∨ v'.ownBlock = some w.heap.size) → K (a.put o.dst v') w') :
    if Region.wanted o (yielded ops a.tmps) = true then Oper.wp Try.prog o a w K Q else E := by
  have hw : Region.wanted o (yielded ops a.tmps) = true := by simp [Region.wanted, hgd]
  rw [if_pos hw]
  obtain ⟨i0, hi, hz0, hz1, hz2⟩ := info_parts Try.u8row
  rcases hsl with ⟨rfl, rfl, rfl⟩ | ⟨A, rfl, h1, h2, hc⟩
  · have hr := run_append_owned_none (P := Try.prog) (w := w) 0 24 o.type 5 i0 1 Try.underlying24 hi v l.length (u8s l) hown
    unfold Oper.wp execOp
    simp only [ho, resolve, invoke, builtin, Sem.run_bind, Sem.run_pure, Result.andThen_ok, List.map_toArray, List.map_cons, List.map_nil, hs, hx, List.length_nil, hr]
    exact h v w (by simpa using hown) (World.grownBy.refl _ _) (.inl rfl)
  · obtain ⟨v', w', hr, h2, h3, h4, h5⟩ := run_append_own_at (P := Try.prog) w 0 24 o.type 5 i0 (.int .u8 0) 1 1 Try.underlying24 hi hz0 hz1 hz2 rfl (by decide) v l.length (u8s l) hown A l2.length c (u8s l2) (by rw [u8s_length]; omega) (Sl.cells (.inr ⟨A, rfl, h1, h2, hc⟩)) (u8s_oneCell l2) (by unfold maxLen; omega) (by omega) (Nat.zero_le _)
    unfold Oper.wp execOp
    simp only [ho, resolve, invoke, builtin, Sem.run_bind, Sem.run_pure, Result.andThen_ok, List.map_toArray, List.map_cons, List.map_nil, hs, hx, hr]
    exact h v' w' (by rw [List.length_append, u8s_append]; exact h2) h3 h5

/-- A new row of bytes, the call's own: its form, its bytes, where it lies. -/
structure New (w w' : World) (ao : Option Addr) (n c : Nat) (l : List UInt8) : Prop where
  own : w'.ownsRow 0 5 1 (.slice ao n c) l.length (u8s l)
  len : n = l.length
  sl : Sl w' ao c l
  up : ∀ g, (Value.slice ao n c).ownBlock = some g → w.heap.size ≤ g
  turn : Turn [] w w'

theorem New.of {w w' : World} {v : Value} {l : List UInt8} (h : w'.ownsRow w.heap.size 5 1 v l.length (u8s l)) (t : Turn [] w w') : ∃ ao n c, v = .slice ao n c ∧ New w w' ao n c l := by
  obtain ⟨ao, c, rfl, hs, hu⟩ := Sl.of_owns h
  refine ⟨ao, l.length, c, rfl, own_zero h, rfl, hs, fun g hg => (h.lt g hg).1, t⟩

theorem grow_turn {w1 w4 w5 : World} {r : Option Nat} (t : Turn [] w1 w4) (g : w4.grownBy w5 r) (h : ∀ k, r = some k → w1.heap.size ≤ k) : Turn [] w1 w5 :=
  t.trans (Turn.grown (l := r.toList) g (fun k hk => .inl (by simp [hk]))) (fun i hi => .inr (h i (by simpa using hi)))

theorem grow_low {w1 w4 : World} {a r : Option Nat} (t : Turn [] w1 w4) (h : ∀ k, r = some k → w1.heap.size ≤ k) (e : a = r ∨ a = some w4.heap.size) : ∀ k, a = some k → w1.heap.size ≤ k := by
  intro k hk
  rcases e with e | e
  · exact h k (e.symm.trans hk)
  · rw [e] at hk
    injection hk with hk
    rw [← hk]
    exact t.size

theorem refSmall_new (n : Int) (w : World) (h : -9223372036854775808 ≤ n ∧ n ≤ 9223372036854775807) :
    Calls Try.prog 62 #[.int .i64 n] w fun e w' => ∃ ao c, e = .returned (.slice ao 2 c) ∧ New w w' ao 2 c (smallB n) := by
  refine (refSmall_calls n w h).mono ?_
  rintro e w' ⟨rfl, rfl⟩
  have hsm := owns_lit (w := w) (smallB n) #[.int .u8 (n % 256), .int .u8 (n / 256 % 256)] (smallB_cells n).symm (by simp [smallB, maxLen])
  exact ⟨_, _, rfl, own_zero hsm, rfl, (Sl.made w _ _ (smallB n) (smallB_cells n).symm (by simp [smallB, maxLen])), fun g hg => (hsm.lt g hg).1, Turn.alloc [] w _⟩

theorem refTruth_new (b : Bool) (w : World) :
    Calls Try.prog 64 #[.bool b] w fun e w' => ∃ ao c, e = .returned (.slice ao 1 c) ∧ New w w' ao 1 c [if b then 1 else 0] := by
  refine (refTruth_calls b w).mono ?_
  rintro e w' ⟨rfl, rfl⟩
  have hc : (#[.int .u8 (if b then 1 else 0)] : Array Value).toList = u8s [if b then 1 else 0] := by cases b <;> rfl
  have hsm := owns_lit (w := w) [if b then 1 else 0] #[.int .u8 (if b then 1 else 0)] hc (by simp [maxLen])
  exact ⟨_, _, rfl, own_zero hsm, rfl, (Sl.made w _ _ [if b then 1 else 0] hc (by simp [maxLen])), fun g hg => (hsm.lt g hg).1, Turn.alloc [] w _⟩

theorem refLong_new (n : Int) (w : World) :
    Calls Try.prog 63 #[.int .i64 n] w fun e w' => ∃ ao c, e = .returned (.slice ao 8 c) ∧ New w w' ao 8 c (longB n) := by
  refine (refLong_calls n w).mono ?_
  rintro e w' ⟨v, rfl, ho, hb⟩
  obtain ⟨ao, k, c, rfl, hn⟩ := New.of ho (Turn.of_below hb [])
  have : k = 8 := hn.len
  subst this
  exact ⟨ao, c, rfl, hn⟩

theorem refText_new (s : ByteArray) (w : World) (hs : s.size ≤ 1000000) :
    Calls Try.prog 65 #[.string s] w fun e w' => ∃ ao c, e = .returned (.slice ao (textB s).length c) ∧ New w w' ao (textB s).length c (textB s) := by
  refine (refText_calls s w hs).mono ?_
  rintro e w' ⟨v, rfl, ho, hb⟩
  obtain ⟨ao, k, c, rfl, hn⟩ := New.of ho (Turn.of_below hb [])
  have : k = (textB s).length := hn.len
  subst this
  exact ⟨ao, c, rfl, hn⟩

set_option maxHeartbeats 4000000 in
set_option maxRecDepth 100000 in
theorem refBytes_calls (r : RecV) {w : World} {ap aq : Option Addr} {cp cq : Nat} (hp : Il w ap cp r.parts) (hq : Ps w aq cq r.puts) (hk : okI r.kind) (hnp : r.parts.length ≤ 10) (hnq : r.puts.length ≤ 12) (hsz : ∀ i, i < r.puts.length → (r.puts.getD i putNone).1.size ≤ 100 ∧ (r.puts.getD i putNone).2.size ≤ 100) :
    Calls Try.prog 39 #[.agg (r.cells ap cp aq cq)] w fun e w' => ∃ v, e = .returned v ∧ w'.ownsRow w.heap.size 5 1 v (recBytes r).length (u8s (recBytes r)) ∧ Turn [] w w' := by
  obtain ⟨kd, t, d, y, P, Q⟩ := r
  have hp : Il w ap cp P := hp
  have hq : Ps w aq cq Q := hq
  have HP := Lib.hid hp
  have HQ := Lib.hid hq
  have HS := Lib.hid hsz
  have hkd : -9223372036854775808 ≤ kd ∧ kd ≤ 9223372036854775807 := hk
  have CK := Lib.hid (fun w => refSmall_new kd w hkd)
  have CT := Lib.hid (fun w => refLong_new t w)
  unfold RecV.cells
  dsimp only at hnp hnq ⊢
  obtain ⟨np, hn1⟩ : ∃ n, n = P.length := ⟨_, rfl⟩
  obtain ⟨nq, hn2⟩ : ∃ n, n = Q.length := ⟨_, rfl⟩
  have HNP := Lib.hid hn1
  have HNQ := Lib.hid hn2
  rw [← hn1] at hnp ⊢
  rw [← hn2] at hnq ⊢
  obtain ⟨w1, hw1⟩ : ∃ w1, w1 = w.alloc (.cells #[.int .i64 kd, .int .i64 t, .int .i64 d, .bool y, .slice ap np cp, .slice aq nq cq] 38) := ⟨_, rfl⟩
  obtain ⟨q, hqd⟩ : ∃ q, q = w.heap.size := ⟨_, rfl⟩
  have t1 : Turn [] w w1 := by rw [hw1]; exact Turn.alloc [] w _
  have b1 : w1.heap[q]? = some (.cells #[.int .i64 kd, .int .i64 t, .int .i64 d, .bool y, .slice ap np cp, .slice aq nq cq] 38) := by rw [hw1, hqd]; exact heap_alloc_new w _
  have T1 := Lib.hid t1
  have B1 := Lib.hid b1
  have HKD := Lib.hid hkd
  clear hp hq hsz hn1 hn2 hk hkd
  go_enter Try.func39, Try.ntmps39
  go_wp2_with fail
  rw [← hw1, ← hqd]
  have HQD := Lib.hid hqd
  clear hw1 t1 b1 hqd
  have CB : ∀ wx, Turn [] w1 wx → wx.cell? ⟨q, 0, none⟩ = some (.int .i64 kd) ∧ wx.cell? ⟨q, 1, none⟩ = some (.int .i64 t) := fun wx tx => by
    constructor <;> rw [cell_of_row _ _ _ _ _ _ (tx.heap B1.out (by simp))] <;> rfl
  have HCB := Lib.hid CB
  obtain ⟨z0, z1⟩ := CB w1 (Turn.refl _ _)
  clear CB
  go_region_held_law (fun w' => w'.cell? ⟨q, 0, none⟩ = some (.int .i64 kd) ∧ w'.cell? ⟨q, 1, none⟩ = some (.int .i64 t))
    (go_keep)
    (first
      | (go_at_call 62; ((with_reducible refine (CK.out _).mono ?_); rintro e w3 ⟨a3, c3, rfl, n3⟩; have T3 := Lib.hid ((Turn.drew [] w1).trans n3.turn (by simp)); have N3 := Lib.hid n3; clear n3; obtain ⟨k0, k1⟩ := HCB.out w3 T3.out))
      | (go_at_call 63; ((with_reducible refine (CT.out _).mono ?_); rintro e w4 ⟨a4, c4, rfl, n4⟩; have T4 := Lib.hid (T3.out.trans n4.turn (by simp)); have N4 := Lib.hid n4; clear n4; obtain ⟨j0, j1⟩ := HCB.out w4 T4.out))
      | (refine step_append_b rfl (.tmp 8) (.tmp 11) rfl (.slice a3 2 c3) (smallB kd) rfl (ownsRow_turn N3.out.own N4.out.turn (fun _ _ => by simp)) a4 c4 (longB t) rfl N4.out.sl (by simp [smallB_len, longB_len]) ?_
         intro v5 w5 ow5 gr5 bl5
         have T5 := Lib.hid (grow_turn T4.out gr5 N3.out.up)
         have L5 := Lib.hid (grow_low T4.out N3.out.up bl5)
         have O5 := Lib.hid ow5
         clear gr5 bl5 ow5
         obtain ⟨i0, i1⟩ := HCB.out w5 T5.out))
  obtain ⟨L5', hL5⟩ : ∃ l, l = smallB kd ++ longB t := ⟨_, rfl⟩
  have HL := Lib.hid hL5
  have HO5 : Hid (w5.ownsRow w1.heap.size 5 1 v5 L5'.length (u8s L5')) := Lib.hid (by rw [hL5]; exact ownsRow_base O5.out L5.out)
  have HLEN : Hid (L5'.length = 10) := Lib.hid (by rw [hL5]; simp [smallB_len, longB_len])
  have HRB : Hid (recBytes ⟨kd, t, d, y, P, Q⟩ = L5' ++ recTail ⟨kd, t, d, y, P, Q⟩) := Lib.hid (by rw [hL5]; rfl)
  obtain ⟨a5, c5, hv5⟩ : ∃ a5 c5, v5 = .slice a5 L5'.length c5 := by
    obtain ⟨a5, c5, h, -⟩ := Sl.of_owns HO5.out
    exact ⟨a5, c5, h⟩
  subst hv5
  have HB5 : Hid (∀ wx, Turn [] w1 wx → wx.heap[q]? = some (.cells #[.int .i64 kd, .int .i64 t, .int .i64 d, .bool y, .slice ap np cp, .slice aq nq cq] 38)) := Lib.hid (fun wx tx => tx.heap B1.out (by simp))
  have z2 : w5.cell? ⟨q, 2, none⟩ = some (.int .i64 d) := by rw [cell_of_row _ _ _ _ _ _ (HB5.out w5 T5.out)]; rfl
  have z3 : w5.cell? ⟨q, 3, none⟩ = some (.bool y) := by rw [cell_of_row _ _ _ _ _ _ (HB5.out w5 T5.out)]; rfl
  have z4 : w5.cell? ⟨q, 4, none⟩ = some (.slice ap np cp) := by rw [cell_of_row _ _ _ _ _ _ (HB5.out w5 T5.out)]; rfl
  have z5 : w5.cell? ⟨q, 5, none⟩ = some (.slice aq nq cq) := by rw [cell_of_row _ _ _ _ _ _ (HB5.out w5 T5.out)]; rfl
  have HFIN : Hid (∀ wx v l, l = recTail ⟨kd, t, d, y, P, Q⟩ → wx.ownsRow w1.heap.size 5 1 v (L5' ++ l).length (u8s (L5' ++ l)) → Turn [] w1 wx → wx.ownsRow w.heap.size 5 1 v (recBytes ⟨kd, t, d, y, P, Q⟩).length (u8s (recBytes ⟨kd, t, d, y, P, Q⟩)) ∧ Turn [] w wx) := Lib.hid (fun wx v l hl ho tx => by
    rw [HRB.out, ← hl]
    exact ⟨ownsRow_base ho (fun g hg => Nat.le_trans T1.out.size (ho.lt g hg).1), T1.out.trans tx (by simp)⟩)
  obtain ⟨n5, hn5⟩ : ∃ n, n = L5'.length := ⟨_, rfl⟩
  rw [← hn5]
  have HN5 := Lib.hid hn5
  clear N3 N4 T3 T4 O5 L5 k0 k1 j0 j1 z0 z1 hL5 hn5
  have hcases : kd = 2 ∨ kd = 5 ∨ (kd = 6 ∨ kd = 8 ∨ kd = 9) ∨ (kd = 4 ∨ kd = 7) ∨ (kd ≠ 2 ∧ kd ≠ 5 ∧ kd ≠ 6 ∧ kd ≠ 8 ∧ kd ≠ 9 ∧ kd ≠ 4 ∧ kd ≠ 7) := by omega
  rcases hcases with rfl | rfl | hk | hk | ⟨e2, e5, e6, e8, e9, e4, e7⟩
  · have CD := Lib.hid (fun w => refLong_new d w)
    have HT : Hid (longB d = recTail ⟨2, t, d, y, P, Q⟩) := Lib.hid rfl
    go_wp2_with fail
    refine (CD.out _).mono ?_
    rintro e w6 ⟨a6, c6, rfl, n6⟩
    have N6 := Lib.hid n6
    have T6 := Lib.hid (T5.out.trans n6.turn (by simp))
    have HO6 := Lib.hid (ownsRow_turn HO5.out n6.turn (fun _ _ => by simp))
    clear n6
    rw [← HN5.out] at HO6
    go_wp2_with (at_builtin; refine append_bytes rfl (.tmp 17) (.tmp 20) rfl w1.heap.size _ L5' rfl (by rw [← HN5.out]; exact HO6.out) a6 c6 (longB d) rfl N6.out.sl (by rw [HLEN.out]; simp [longB_len]) T6.out.size ?_)
    intro v7 w7 ow7 gr7 _
    have HF := Lib.hid (HFIN.out w7 v7 (longB d) HT.out (by rw [List.length_append]; exact ow7) (grow_turn T6.out gr7 (fun g hg => (HO6.out.lt g hg).1)))
    clear ow7 gr7
    go_wp2
    go_ret
    exact ⟨_, rfl, HF.out.1, HF.out.2⟩
  · have CD := Lib.hid (fun w => refTruth_new y w)
    obtain ⟨B, hB⟩ : ∃ B : List UInt8, B = [if y then 1 else 0] := ⟨_, rfl⟩
    have HBL : Hid (B.length = 1) := Lib.hid (by rw [hB]; rfl)
    have HT : Hid (B = recTail ⟨5, t, d, y, P, Q⟩) := Lib.hid (by rw [hB]; rfl)
    rw [← hB] at CD
    clear hB
    go_wp2_with fail
    refine (CD.out _).mono ?_
    rintro e w6 ⟨a6, c6, rfl, n6⟩
    have N6 := Lib.hid n6
    have T6 := Lib.hid (T5.out.trans n6.turn (by simp))
    have HO6 := Lib.hid (ownsRow_turn HO5.out n6.turn (fun _ _ => by simp))
    clear n6
    rw [← HN5.out] at HO6
    go_wp2_with (at_builtin; refine append_bytes rfl (.tmp 24) (.tmp 27) rfl w1.heap.size _ L5' rfl (by rw [← HN5.out]; exact HO6.out) a6 c6 B (by rw [HBL.out]; rfl) N6.out.sl (by rw [HLEN.out, HBL.out]; omega) T6.out.size ?_)
    intro v7 w7 ow7 gr7 _
    have HF := Lib.hid (HFIN.out w7 v7 B HT.out (by rw [List.length_append]; exact ow7) (grow_turn T6.out gr7 (fun g hg => (HO6.out.lt g hg).1)))
    clear ow7 gr7
    go_wp2
    go_ret
    exact ⟨_, rfl, HF.out.1, HF.out.2⟩
  · have HT : Hid (smallB (np : Int) ++ partsBy P = recTail ⟨kd, t, d, y, P, Q⟩) := Lib.hid (by
      unfold recTail
      dsimp only
      rw [if_neg (by omega), if_neg (by omega), if_pos hk, HNP.out])
    have CN := Lib.hid (fun w => refSmall_new (np : Int) w (by omega))
    rcases hk with rfl | rfl | rfl
    all_goals
      go_wp2_with fail
      refine (CN.out _).mono ?_
      rintro e w6 ⟨a6, c6, rfl, n6⟩
      have N6 := Lib.hid n6
      have T6 := Lib.hid (T5.out.trans n6.turn (by simp))
      have HO6 := Lib.hid (ownsRow_turn HO5.out n6.turn (fun _ _ => by simp))
      clear n6
      rw [← HN5.out] at HO6
      go_wp2_with (at_builtin; refine append_bytes rfl (.tmp 33) (.tmp 37) rfl w1.heap.size _ L5' rfl (by rw [← HN5.out]; exact HO6.out) a6 c6 (smallB (np : Int)) rfl N6.out.sl (by rw [HLEN.out]; simp [smallB_len]) T6.out.size ?_)
      intro v7 w7 ow7 gr7 _
      have T7 := Lib.hid (grow_turn T6.out gr7 (fun g hg => (HO6.out.lt g hg).1))
      have HO7 : Hid (w7.ownsRow w1.heap.size 5 1 v7 (L5' ++ (smallB (np : Int) ++ partsBy (P.take 0))).length (u8s (L5' ++ (smallB (np : Int) ++ partsBy (P.take 0))))) := Lib.hid (by
        have e : L5' ++ (smallB (np : Int) ++ partsBy (P.take 0)) = L5' ++ smallB (np : Int) := by simp [partsBy]
        rw [e, List.length_append]
        exact ow7)
      clear ow7 gr7
      go_wp2_with fail
      go_loopw [3, 4] (fun v i wx => ∃ k : Nat, k ≤ np ∧ i = .int .i64 (k : Int) ∧ wx.ownsRow w1.heap.size 5 1 v (L5' ++ (smallB (np : Int) ++ partsBy (P.take k))).length (u8s (L5' ++ (smallB (np : Int) ++ partsBy (P.take k)))) ∧ Turn [] w1 wx) (fun _ i _ => np - (intOf i).toNat)
      case atStart => exact ⟨0, by omega, rfl, HO7.out, T7.out⟩
      case round =>
        obtain ⟨k, hk, rfl, ho, tx⟩ := hrel
        have HO := Lib.hid ho
        have TX := Lib.hid tx
        clear ho tx
        have x4 : wr.cell? ⟨q, 4, none⟩ = some (.slice ap np cp) := by rw [cell_of_row _ _ _ _ _ _ (HB5.out wr TX.out)]; rfl
        obtain ⟨Lk, hLk⟩ : ∃ l, l = L5' ++ (smallB (np : Int) ++ partsBy (P.take k)) := ⟨_, rfl⟩
        rw [← hLk] at HO
        have HLK := Lib.hid hLk
        have HLL : Hid (Lk.length ≤ 10 + (2 + 20)) := Lib.hid (by rw [hLk, List.length_append, List.length_append, HLEN.out, smallB_len, partsBy_len]; simp; omega)
        obtain ⟨ax, cx, hvx⟩ : ∃ a c, u3 = .slice a Lk.length c := by
          obtain ⟨a, c, h, -⟩ := Sl.of_owns HO.out
          exact ⟨a, c, h⟩
        subst hvx
        clear hLk
        by_cases hkn : k < np
        · have hkl : k < P.length := by rw [← HNP.out]; exact hkn
          have HNEXT : Hid (Lk ++ smallB (P.getD k 0) = L5' ++ (smallB (np : Int) ++ partsBy (P.take (k + 1)))) := Lib.hid (by rw [HLK.out, partsBy_next hkl]; simp)
          obtain ⟨b, off, rfl, -, hat⟩ := (HP.out.turn (T1.out.trans TX.out (by simp))).at (by intro e; rw [e] at hkl; simp at hkl)
          have h0 := hat k hkl
          have hbd : 0 ≤ (k : Int) ∧ (k : Int) < (np : Int) := by omega
          have hint : -9223372036854775808 ≤ P.getD k 0 ∧ P.getD k 0 ≤ 9223372036854775807 := by
            rcases HP.out with ⟨h, _⟩ | ⟨A, _, _, _, _, h5⟩
            · cases h
            · refine h5 _ ?_
              simp [List.getD, hkl]
          have CX := Lib.hid (fun w => refSmall_new (P.getD k 0) w hint)
          obtain ⟨x, hx⟩ : ∃ x, x = P.getD k 0 := ⟨_, rfl⟩
          rw [← hx] at h0 CX HNEXT
          obtain ⟨nk, hnk⟩ : ∃ n, n = Lk.length := ⟨_, rfl⟩
          rw [← hnk]
          have HNK := Lib.hid hnk
          clear hat hx hint hnk
          go_wp2_with fail
          refine (CX.out _).mono ?_
          rintro e w8 ⟨a8, c8, rfl, n8⟩
          have N8 := Lib.hid n8
          have T8 := Lib.hid (TX.out.trans n8.turn (by simp))
          have HO8 := Lib.hid (ownsRow_turn HO.out n8.turn (fun _ _ => by simp))
          clear n8 h0 x4
          rw [← HNK.out] at HO8
          go_wp2_with (at_builtin; refine append_bytes rfl (.tmp 46) (.tmp 52) rfl w1.heap.size _ Lk rfl (by rw [← HNK.out]; exact HO8.out) a8 c8 (smallB x) rfl N8.out.sl (by have := HLL.out; simp [smallB_len]; omega) T8.out.size ?_)
          intro v9 w9 ow9 gr9 _
          have T9 := Lib.hid (grow_turn T8.out gr9 (fun g hg => (HO8.out.lt g hg).1))
          have HO9 : Hid (w9.ownsRow w1.heap.size 5 1 v9 (L5' ++ (smallB (np : Int) ++ partsBy (P.take (k + 1)))).length (u8s (L5' ++ (smallB (np : Int) ++ partsBy (P.take (k + 1)))))) := Lib.hid (by
            rw [← HNEXT.out, List.length_append]
            exact ow9)
          clear ow9 gr9
          go_wp2_with fail
          go_roundw
          case rel => exact ⟨k + 1, by omega, by go_num, HO9.out, T9.out⟩
          case measure => simp [intOf]; omega
        · have hkk : k = np := by omega
          have HLE : Hid (Lk = L5' ++ (smallB (np : Int) ++ partsBy P)) := Lib.hid (by rw [HLK.out, hkk, HNP.out, List.take_length])
          have HF := Lib.hid (HFIN.out wr (.slice ax Lk.length cx) (smallB (np : Int) ++ partsBy P) HT.out (by rw [← HLE.out]; exact HO.out) TX.out)
          obtain ⟨nk, hnk⟩ : ∃ n, n = Lk.length := ⟨_, rfl⟩
          rw [← hnk] at HF ⊢
          clear hnk
          go_wp2
          go_ret
          exact ⟨_, rfl, HF.out.1, HF.out.2⟩
  · have HT : Hid (smallB (nq : Int) ++ putsBy Q = recTail ⟨kd, t, d, y, P, Q⟩) := Lib.hid (by
      unfold recTail
      dsimp only
      rw [if_neg (by omega), if_neg (by omega), if_neg (by omega), if_pos hk, HNQ.out])
    have CN := Lib.hid (fun w => refSmall_new (nq : Int) w (by omega))
    rcases hk with rfl | rfl
    all_goals
      go_wp2_with fail
      refine (CN.out _).mono ?_
      rintro e w6 ⟨a6, c6, rfl, n6⟩
      have N6 := Lib.hid n6
      have T6 := Lib.hid (T5.out.trans n6.turn (by simp))
      have HO6 := Lib.hid (ownsRow_turn HO5.out n6.turn (fun _ _ => by simp))
      clear n6
      rw [← HN5.out] at HO6
      go_wp2_with (at_builtin; refine append_bytes rfl (.tmp 57) (.tmp 61) rfl w1.heap.size _ L5' rfl (by rw [← HN5.out]; exact HO6.out) a6 c6 (smallB (nq : Int)) rfl N6.out.sl (by rw [HLEN.out]; simp [smallB_len]) T6.out.size ?_)
      intro v7 w7 ow7 gr7 _
      have T7 := Lib.hid (grow_turn T6.out gr7 (fun g hg => (HO6.out.lt g hg).1))
      have HO7 : Hid (w7.ownsRow w1.heap.size 5 1 v7 (L5' ++ (smallB (nq : Int) ++ putsBy (Q.take 0))).length (u8s (L5' ++ (smallB (nq : Int) ++ putsBy (Q.take 0))))) := Lib.hid (by
        have e : L5' ++ (smallB (nq : Int) ++ putsBy (Q.take 0)) = L5' ++ smallB (nq : Int) := by simp [putsBy]
        rw [e, List.length_append]
        exact ow7)
      clear ow7 gr7
      go_wp2_with fail
      go_loopw [3, 5] (fun v i wx => ∃ k : Nat, k ≤ nq ∧ i = .int .i64 (k : Int) ∧ wx.ownsRow w1.heap.size 5 1 v (L5' ++ (smallB (nq : Int) ++ putsBy (Q.take k))).length (u8s (L5' ++ (smallB (nq : Int) ++ putsBy (Q.take k)))) ∧ Turn [] w1 wx) (fun _ i _ => nq - (intOf i).toNat)
      case atStart => exact ⟨0, by omega, rfl, HO7.out, T7.out⟩
      case round =>
        obtain ⟨k, hk, rfl, ho, tx⟩ := hrel
        have HO := Lib.hid ho
        have TX := Lib.hid tx
        clear ho tx
        have x5 : wr.cell? ⟨q, 5, none⟩ = some (.slice aq nq cq) := by rw [cell_of_row _ _ _ _ _ _ (HB5.out wr TX.out)]; rfl
        obtain ⟨Lk, hLk⟩ : ∃ l, l = L5' ++ (smallB (nq : Int) ++ putsBy (Q.take k)) := ⟨_, rfl⟩
        rw [← hLk] at HO
        have HLK := Lib.hid hLk
        have HLL : Hid (Lk.length ≤ 10 + (2 + 2000000)) := Lib.hid (by
          have := putsBy_len (Q.take k)
          have h2 : (Q.take k).length ≤ 12 := by simp; omega
          rw [hLk, List.length_append, List.length_append, HLEN.out, smallB_len]; omega)
        obtain ⟨ax, cx, hvx⟩ : ∃ a c, u3 = .slice a Lk.length c := by
          obtain ⟨a, c, h, -⟩ := Sl.of_owns HO.out
          exact ⟨a, c, h⟩
        subst hvx
        clear hLk
        by_cases hkn : k < nq
        · have hkl : k < Q.length := by rw [← HNQ.out]; exact hkn
          have HNEXT : Hid (Lk ++ textB (Q.getD k putNone).1 ++ textB (Q.getD k putNone).2 = L5' ++ (smallB (nq : Int) ++ putsBy (Q.take (k + 1)))) := Lib.hid (by rw [HLK.out, putsBy_next hkl]; simp)
          obtain ⟨b, off, rfl, -, hat⟩ := (HQ.out.turn T1.out).at (by intro e; rw [e] at hkl; simp at hkl)
          obtain ⟨h0, h1, -, -⟩ := hat k hkl
          have y5 : w1.cell? ⟨q, 5, none⟩ = some (.slice (some ⟨b, off, none⟩) nq cq) := by rw [cell_of_row _ _ _ _ _ _ B1.out]; rfl
          have hbd : 0 ≤ (k : Int) ∧ (k : Int) < (nq : Int) := by omega
          obtain ⟨s1, s2⟩ := HS.out k hkl
          have CX := Lib.hid (fun w => refText_new (Q.getD k putNone).1 w (by omega))
          have CY := Lib.hid (fun w => refText_new (Q.getD k putNone).2 w (by omega))
          obtain ⟨x, hx⟩ : ∃ x, x = (Q.getD k putNone).1 := ⟨_, rfl⟩
          obtain ⟨z, hz⟩ : ∃ x, x = (Q.getD k putNone).2 := ⟨_, rfl⟩
          rw [← hx] at h0 CX HNEXT
          rw [← hz] at h1 CY HNEXT
          have BX := Lib.hid (textB_len x)
          have BZ := Lib.hid (textB_len z)
          generalize textB x = X at *
          generalize textB z = Z at *
          obtain ⟨nk, hnk⟩ : ∃ n, n = Lk.length := ⟨_, rfl⟩
          rw [← hnk]
          have HNK := Lib.hid hnk
          obtain ⟨nx, hnx⟩ : ∃ n, n = X.length := ⟨_, rfl⟩
          have HNX := Lib.hid hnx
          obtain ⟨nz, hnz⟩ : ∃ n, n = Z.length := ⟨_, rfl⟩
          have HNZ := Lib.hid hnz
          rw [← hnx] at CX
          rw [← hnz] at CY
          have CB : ∀ wx, Turn [] w1 wx → wx.cell? ⟨q, 5, none⟩ = some (.slice (some ⟨b, off, none⟩) nq cq) ∧ wx.cell? ⟨b, off + k * 2, none⟩ = some (.string x) ∧ wx.cell? ⟨b, off + k * 2 + 1, none⟩ = some (.string z) := fun wx tx => ⟨tx.cell y5 (by simp), tx.cell h0 (by simp), tx.cell h1 (by simp)⟩
          have HCB2 := Lib.hid CB
          rw [← hnk] at HO
          clear hat hx hz s1 s2 hnk hnx hnz y5 h0 h1 x5
          obtain ⟨x5, h0, h1⟩ := CB wr TX.out
          clear CB
          go_wp2_with fail
          go_region_held_law (fun w' => w'.cell? ⟨q, 5, none⟩ = some (.slice (some ⟨b, off, none⟩) nq cq) ∧ w'.cell? ⟨b, off + k * 2, none⟩ = some (.string x) ∧ w'.cell? ⟨b, off + k * 2 + 1, none⟩ = some (.string z))
            (go_keep)
            (first
              | (go_at_call 65; ((with_reducible refine (CX.out _).mono ?_); rintro e w8 ⟨a8, c8, rfl, n8⟩; have P8 := Lib.hid ((Turn.drew [] wr).trans n8.turn (by simp)); have T8 := Lib.hid (TX.out.trans P8.out (by simp)); have N8 := Lib.hid n8; clear n8; obtain ⟨k0, k1, k2⟩ := HCB2.out w8 T8.out))
              | (refine step_append_b rfl (.tmp 70) (.tmp 77) rfl (.slice ax nk cx) Lk rfl (by rw [← HNK.out]; exact own_zero (ownsRow_turn HO.out P8.out (fun _ _ => by simp))) a8 c8 X (by rw [← HNX.out]; rfl) N8.out.sl (by have := HLL.out; have := BX.out; omega) ?_
                 intro v9 w9 ow9 gr9 bl9
                 have T9 := Lib.hid (grow_turn T8.out gr9 (fun g hg => (HO.out.lt g hg).1))
                 have L9 := Lib.hid (grow_low T8.out (fun g hg => (HO.out.lt g hg).1) bl9)
                 have O9 := Lib.hid ow9
                 clear gr9 bl9 ow9
                 obtain ⟨j0, j1, j2⟩ := HCB2.out w9 T9.out)
              | (go_at_call 65; ((with_reducible refine (CY.out _).mono ?_); rintro e w10 ⟨a10, c10, rfl, n10⟩; have T10 := Lib.hid (T9.out.trans n10.turn (by simp)); have N10 := Lib.hid n10; clear n10; obtain ⟨m0, m1, m2⟩ := HCB2.out w10 T10.out))
              | (refine step_append_b rfl (.tmp 78) (.tmp 85) rfl v9 (Lk ++ X) rfl (ownsRow_turn O9.out N10.out.turn (fun _ _ => by simp)) a10 c10 Z (by rw [← HNZ.out]; rfl) N10.out.sl (by have := HLL.out; have := BX.out; have := BZ.out; rw [List.length_append]; omega) ?_
                 intro v11 w11 ow11 gr11 bl11
                 have T11 := Lib.hid (grow_turn T10.out gr11 L9.out)
                 have L11 := Lib.hid (grow_low T10.out L9.out bl11)
                 have O11 := Lib.hid ow11
                 clear gr11 bl11 ow11
                 obtain ⟨i0, i1, i2⟩ := HCB2.out w11 T11.out))
          have HO12 : Hid (w11.ownsRow w1.heap.size 5 1 v11 (L5' ++ (smallB (nq : Int) ++ putsBy (Q.take (k + 1)))).length (u8s (L5' ++ (smallB (nq : Int) ++ putsBy (Q.take (k + 1)))))) := Lib.hid (by
            rw [← HNEXT.out]
            exact ownsRow_base O11.out L11.out)
          go_wp2_with fail
          go_roundw
          case rel => exact ⟨k + 1, by omega, by go_num, HO12.out, T11.out⟩
          case measure => simp [intOf]; omega
        · have hkk : k = nq := by omega
          have HLE : Hid (Lk = L5' ++ (smallB (nq : Int) ++ putsBy Q)) := Lib.hid (by rw [HLK.out, hkk, HNQ.out, List.take_length])
          have HF := Lib.hid (HFIN.out wr (.slice ax Lk.length cx) (smallB (nq : Int) ++ putsBy Q) HT.out (by rw [← HLE.out]; exact HO.out) TX.out)
          obtain ⟨nk, hnk⟩ : ∃ n, n = Lk.length := ⟨_, rfl⟩
          rw [← hnk] at HF ⊢
          clear hnk
          go_wp2
          go_ret
          exact ⟨_, rfl, HF.out.1, HF.out.2⟩
  · have f2 : (kd == 2) = false := by simpa using e2
    have f5 : (kd == 5) = false := by simpa using e5
    have f6 : (kd == 6) = false := by simpa using e6
    have f8 : (kd == 8) = false := by simpa using e8
    have f9 : (kd == 9) = false := by simpa using e9
    have f4 : (kd == 4) = false := by simpa using e4
    have f7 : (kd == 7) = false := by simpa using e7
    have HT : Hid ([] = recTail ⟨kd, t, d, y, P, Q⟩) := Lib.hid (by
      unfold recTail
      dsimp only
      rw [if_neg e2, if_neg e5, if_neg (by omega), if_neg (by omega)])
    have HF := Lib.hid (HFIN.out w5 _ [] HT.out (by rw [List.append_nil]; exact HO5.out) T5.out)
    rw [← HN5.out] at HF
    clear e2 e5 e6 e8 e9 e4 e7
    go_wp2
    go_ret
    exact ⟨_, rfl, HF.out.1, HF.out.2⟩

end Go.Proofs.Ytanjbbmgpodbgaa
