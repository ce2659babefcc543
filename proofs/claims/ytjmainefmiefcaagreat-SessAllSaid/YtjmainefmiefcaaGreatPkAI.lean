/-
  Of the texts Open8 Rb Rj Face Begun8 Beg13 Ss SsC, in build order, each as it was built alone.
-/
import Derived.Test.YtjmainefmiefcaaGreatChecked
import Derived.Test.YtjmainefmiefcaaGreatPkAB
import Derived.ProofKit
import Derived.OpenShut
import Derived.Deep.Slices
import Derived.Deep.Grids
import Derived.Deep.Strs
import Derived.WideShapes
import Derived.Test.YtjmainefmiefcaaGreatPkAE
import Derived.Test.YtjmainefmiefcaaGreatPkAF
import Derived.Test.YtjmainefmiefcaaGreatPkAA
import Derived.Deep.RegionHeldLaw
import Derived.Maps.AppendAt
import Derived.Lib.SliceRun
import Derived.Test.YtjmainefmiefcaaGreatPkAD
import Derived.Test.YtjmainefmiefcaaGreatPkAC
import Derived.Deep.CutRange
import Derived.BigQuiet

/-
  What opens the arguments of the laws of kind and rec: records, packets.
-/
namespace Go.Proofs.YtjmainefmiefcaaGreat
open Go.RowKit Go.ChangeShapes Go.WideShapes Go.ChangeAt Go.Deep

theorem exists_list {α : Type} (d : α) (P : Nat → α → Prop) : ∀ n, (∀ i, i < n → ∃ x, P i x) → ∃ l : List α, l.length = n ∧ ∀ i, i < n → P i (l.getD i d)
  | 0, _ => ⟨[], rfl, fun i hi => by omega⟩
  | n + 1, h => by
    obtain ⟨l, hl, hp⟩ := exists_list d P n (fun i hi => h i (by omega))
    obtain ⟨x, hx⟩ := h n (by omega)
    refine ⟨l ++ [x], by simp [hl], fun i hi => ?_⟩
    by_cases e : i < n
    · have : (l ++ [x]).getD i d = l.getD i d := by simp [List.getD, List.getElem?_append, hl, e]
      rw [this]
      exact hp i e
    · obtain rfl : i = n := by omega
      have : (l ++ [x]).getD i d = x := by simp [List.getD, ← hl]
      rw [this]
      exact hx

theorem array6 {α : Type} {cs : Array α} (h : cs.size = 6) : ∃ c0 c1 c2 c3 c4 c5, cs = #[c0, c1, c2, c3, c4, c5] := by
  obtain ⟨l⟩ := cs
  match l, h with
  | [c0, c1, c2, c3, c4, c5], _ => exact ⟨c0, c1, c2, c3, c4, c5, rfl⟩

section
variable {H : Type} {enc : TypeId × Value → H} {P : Program} {w : World} {base : Nat} {spare : Nat → Bool} {held : Bool}

theorem trod_struct6 {t : TypeId} {f0 f1 f2 f3 f4 f5 : Field} {fuel : Nat} {cs : List Value} {x : DataW H × List MemPlace} (ht : P.underlying t = some (.struct #[f0, f1, f2, f3, f4, f5])) (h : DataW.trod enc P w base spare held fuel t cs = some x) :
    ∃ y0 y1 y2 y3 y4 y5 n, cs.length = P.cellsOf t ∧ DataW.trod enc P w base spare held n f0.type ((cs.drop f0.offset).take (P.cellsOf f0.type)) = some y0 ∧
      DataW.trod enc P w base spare held n f1.type ((cs.drop f1.offset).take (P.cellsOf f1.type)) = some y1 ∧ DataW.trod enc P w base spare held n f2.type ((cs.drop f2.offset).take (P.cellsOf f2.type)) = some y2 ∧
      DataW.trod enc P w base spare held n f3.type ((cs.drop f3.offset).take (P.cellsOf f3.type)) = some y3 ∧ DataW.trod enc P w base spare held n f4.type ((cs.drop f4.offset).take (P.cellsOf f4.type)) = some y4 ∧
      DataW.trod enc P w base spare held n f5.type ((cs.drop f5.offset).take (P.cellsOf f5.type)) = some y5 := by
  obtain ⟨xs, n, _, rfl, hl, hlen, hf⟩ := DataW.trod_struct ht h
  match xs, hlen with
  | [y0, y1, y2, y3, y4, y5], _ => exact ⟨y0, y1, y2, y3, y4, y5, n, hl, by simpa using hf 0 f0 rfl, by simpa using hf 1 f1 rfl, by simpa using hf 2 f2 rfl, by simpa using hf 3 f3 rfl, by simpa using hf 4 f4 rfl, by simpa using hf 5 f5 rfl⟩
end

theorem cells1I : Tryz.prog.cellsOf 3 = 1 := by kernel_rfl
theorem cells1L : Tryz.prog.cellsOf 2 = 1 := by kernel_rfl
theorem cells1B : Tryz.prog.cellsOf 4 = 1 := by kernel_rfl
theorem cells1S : Tryz.prog.cellsOf 9 = 1 := by kernel_rfl
theorem cells1P : Tryz.prog.cellsOf 62 = 1 := by kernel_rfl
theorem cells1Q : Tryz.prog.cellsOf 32 = 1 := by kernel_rfl
theorem cells2Put : Tryz.prog.cellsOf 28 = 2 := by kernel_rfl
theorem cells6R : Tryz.prog.cellsOf 100 = 6 := by kernel_rfl
theorem cells6K : Tryz.prog.cellsOf 109 = 6 := by kernel_rfl

theorem field_ints {H : Type} {enc : TypeId × Value → H} {W : World} {v : Value} {fuel : Nat} {y : DataW H × List MemPlace}
    (hf : DataW.trod enc Tryz.prog W 0 (fun _ => true) true fuel 62 [v] = some y) : ∃ a c l, v = .slice a l.length c ∧ Il W a c l := by
  rcases open_ints Tryz.underlying62 Tryz.underlying3 (by kernel_rfl) hf with ⟨hcs, _⟩ | ⟨x, l, c, zs, hcs, _, hl, hm, hz, _, hcell, hwz⟩
  · simp at hcs
    exact ⟨none, 0, [], by rw [hcs]; rfl, .inl ⟨rfl, rfl, rfl⟩⟩
  · simp at hcs
    simp only [if_true] at hz
    have hln : (zs.take l).length = l := by simp; omega
    refine ⟨some x, c, zs.take l, by rw [hcs, hln], .inr ⟨x, rfl, by omega, hm, fun i hi => ?_, fun n hn => bounds_i64 (hwz n (List.mem_of_mem_take hn))⟩⟩
    have hi2 : i < l := by omega
    rw [hcell i (by omega)]
    simp [List.getD, hi2]

set_option maxRecDepth 100000 in
theorem field_puts {H : Type} {enc : TypeId × Value → H} {W : World} {v : Value} {fuel : Nat} {y : DataW H × List MemPlace}
    (hf : DataW.trod enc Tryz.prog W 0 (fun _ => true) true fuel 32 [v] = some y) : ∃ a c l, v = .slice a l.length c ∧ Ps W a c l := by
  rcases open_slice Tryz.underlying32 hf with ⟨hcs, _⟩ | ⟨x, len, c, m, n, D, Pl, hcs, _, hl, hm, hmm, _, hel⟩
  · simp at hcs
    exact ⟨none, 0, [], by rw [hcs]; rfl, .inl ⟨rfl, rfl, rfl⟩⟩
  · simp at hcs
    simp only [if_true] at hmm
    rw [cells2Put] at hel
    obtain ⟨ps, hol, hop⟩ := exists_list putNone (fun i (p : ByteArray × ByteArray) => W.cell? (x.add (i * 2)) = some (.string p.1) ∧ W.cell? ((x.add (i * 2)).add 1) = some (.string p.2) ∧ p.1.size ≤ 9223372036854775807 ∧ p.2.size ≤ 9223372036854775807) len (by
      intro i hi
      obtain ⟨cs, hc, ht⟩ := hel i (by omega)
      obtain ⟨y0, y1, k, _, hlen, t0, t1⟩ := trod_struct2 Tryz.underlying28 ht
      rw [cells2Put] at hlen
      obtain ⟨_, _, hat⟩ := World.cells?_some hc
      match cs, hlen with
      | [v0, v1], _ =>
        obtain ⟨s0, e0, _, w0⟩ := DataW.trod_string Tryz.underlying9 t0
        obtain ⟨s1, e1, _, w1⟩ := DataW.trod_string Tryz.underlying9 t1
        have q0 := hat 0 (by omega)
        have q1 := hat 1 (by omega)
        dsimp only at e0 e1
        rw [cells1S] at e0 e1
        simp only [List.drop_zero, List.drop_succ_cons, List.take_succ_cons, List.take_zero, List.cons.injEq, and_true] at e0 e1
        subst e0 e1
        have a0 : (x.add (i * 2)).add 0 = x.add (i * 2) := by simp [Addr.add]
        rw [a0] at q0
        unfold maxLen at w0 w1
        exact ⟨(s0, s1), q0, q1, by show s0.size ≤ _; omega, by show s1.size ≤ _; omega⟩)
    refine ⟨some x, c, ps, by rw [hcs, hol], .inr ⟨x, rfl, by omega, hm, fun i hi => hop i (by omega)⟩⟩

def okI (x : Int) : Prop := -9223372036854775808 ≤ x ∧ x ≤ 9223372036854775807

set_option maxRecDepth 100000 in
theorem open_record {H : Type} {enc : TypeId × Value → H} {W : World} {r : Reach} {b0 : Nat} {v : Value} {d : DataW H} {p : List MemPlace} (hv : Value.okWide Tryz.prog W r b0 100 v)
    (h : DataW.Trod enc Tryz.prog W 0 (fun _ => true) true 100 v d p) : ∃ (x : RecV) (ap : Option Addr) (cp : Nat) (aq : Option Addr) (cq : Nat), v = .agg (x.cells ap cp aq cq) ∧ Il W ap cp x.parts ∧ Ps W aq cq x.puts ∧ okI x.kind ∧ okI x.tid ∧ okI x.id := by
  obtain ⟨cs, rfl, hsz⟩ := okWide_struct Tryz.underlying100 hv
  rw [cells6R] at hsz
  obtain ⟨v0, v1, v2, v3, v4, v5, rfl⟩ := array6 hsz
  obtain ⟨fuel, hf⟩ := h
  obtain ⟨y0, y1, y2, y3, y4, y5, n, -, t0, t1, t2, t3, t4, t5⟩ := trod_struct6 Tryz.underlying100 hf
  dsimp only at t0 t1 t2 t3 t4 t5
  rw [cells1I] at t0
  rw [cells1L] at t1 t2
  rw [cells1B] at t3
  rw [cells1P] at t4
  rw [cells1Q] at t5
  simp only [Value.cells, List.drop_zero, List.drop_succ_cons, List.take_succ_cons, List.take_zero] at t0 t1 t2 t3 t4 t5
  obtain ⟨kd, e0, -, w0⟩ := DataW.trod_int Tryz.underlying3 t0
  obtain ⟨td, e1, -, w1⟩ := DataW.trod_int Tryz.underlying2 t1
  obtain ⟨id, e2, -, w2⟩ := DataW.trod_int Tryz.underlying2 t2
  obtain ⟨yes, e3, -⟩ := DataW.trod_bool Tryz.underlying4 t3
  obtain ⟨ap, cp, P, e4, hp⟩ := field_ints t4
  obtain ⟨aq, cq, Q, e5, hq⟩ := field_puts t5
  simp only [List.cons.injEq, and_true] at e0 e1 e2 e3
  subst e0 e1 e2 e3 e4 e5
  exact ⟨⟨kd, td, id, yes, P, Q⟩, ap, cp, aq, cq, rfl, hp, hq, bounds_i64 w0, bounds_i64 w1, bounds_i64 w2⟩

set_option maxRecDepth 100000 in
theorem open_packet {H : Type} {enc : TypeId × Value → H} {W : World} {r : Reach} {b0 : Nat} {v : Value} {d : DataW H} {p : List MemPlace} (hv : Value.okWide Tryz.prog W r b0 109 v)
    (h : DataW.Trod enc Tryz.prog W 0 (fun _ => true) true 109 v d p) : ∃ x : PacV, v = .agg x.cells ∧ okI x.kind ∧ okI x.src ∧ okI x.dst ∧ okI x.tid ∧ okI x.n := by
  obtain ⟨cs, rfl, hsz⟩ := okWide_struct Tryz.underlying109 hv
  rw [cells6K] at hsz
  obtain ⟨v0, v1, v2, v3, v4, v5, rfl⟩ := array6 hsz
  obtain ⟨fuel, hf⟩ := h
  obtain ⟨y0, y1, y2, y3, y4, y5, n, -, t0, t1, t2, t3, t4, t5⟩ := trod_struct6 Tryz.underlying109 hf
  dsimp only at t0 t1 t2 t3 t4 t5
  rw [cells1I] at t0 t1 t2 t4
  rw [cells1L] at t3
  rw [cells1B] at t5
  simp only [Value.cells, List.drop_zero, List.drop_succ_cons, List.take_succ_cons, List.take_zero] at t0 t1 t2 t3 t4 t5
  obtain ⟨kd, e0, -, w0⟩ := DataW.trod_int Tryz.underlying3 t0
  obtain ⟨x1, e1, -, w1⟩ := DataW.trod_int Tryz.underlying3 t1
  obtain ⟨x2, e2, -, w2⟩ := DataW.trod_int Tryz.underlying3 t2
  obtain ⟨td, e3, -, w3⟩ := DataW.trod_int Tryz.underlying2 t3
  obtain ⟨x4, e4, -, w4⟩ := DataW.trod_int Tryz.underlying3 t4
  obtain ⟨yes, e5, -⟩ := DataW.trod_bool Tryz.underlying4 t5
  simp only [List.cons.injEq, and_true] at e0 e1 e2 e3 e4 e5
  subst e0 e1 e2 e3 e4 e5
  exact ⟨⟨kd, x1, x2, td, x4, yes⟩, rfl, bounds_i64 w0, bounds_i64 w1, bounds_i64 w2, bounds_i64 w3, bounds_i64 w4⟩

end Go.Proofs.YtjmainefmiefcaaGreat


/-
  A record's bytes, as the document lays them; the walk of the reference's Bytes; what is asked of rec.
-/
namespace Go.Proofs.YtjmainefmiefcaaGreat
open Go.RowKit

/-- Brokers, two bytes each. -/
def partsBy (l : List Int) : List UInt8 := l.flatMap smallB

/-- Puts: each its queue's text, its body's. -/
def putsBy (l : List (ByteArray × ByteArray)) : List UInt8 := l.flatMap fun p => textB p.1 ++ textB p.2

/-- What a record's kind adds. -/
def recTail (r : RecV) : List UInt8 :=
  if r.kind = 2 then longB r.id else if r.kind = 5 then [if r.yes then 1 else 0]
  else if r.kind = 6 ∨ r.kind = 8 ∨ r.kind = 9 then smallB r.parts.length ++ partsBy r.parts
  else if r.kind = 4 ∨ r.kind = 7 then smallB r.puts.length ++ putsBy r.puts else []

def recBytes (r : RecV) : List UInt8 := smallB r.kind ++ longB r.tid ++ recTail r

theorem partsBy_next {l : List Int} {k : Nat} (h : k < l.length) : partsBy (l.take (k + 1)) = partsBy (l.take k) ++ smallB (l.getD k 0) := by
  unfold partsBy
  rw [List.take_succ_eq_append_getElem h, List.flatMap_append]
  congr 1
  simp [List.getD, h]

theorem putsBy_next {l : List (ByteArray × ByteArray)} {k : Nat} (h : k < l.length) : putsBy (l.take (k + 1)) = putsBy (l.take k) ++ textB (l.getD k putNone).1 ++ textB (l.getD k putNone).2 := by
  unfold putsBy
  rw [List.take_succ_eq_append_getElem h, List.flatMap_append, List.append_assoc]
  congr 1
  simp [List.getD, h]

theorem smallB_len (n : Int) : (smallB n).length = 2 := rfl
theorem longB_len (n : Int) : (longB n).length = 8 := rfl

theorem partsBy_len (l : List Int) : (partsBy l).length = 2 * l.length := by
  induction l with
  | nil => rfl
  | cons x l ih => simp only [partsBy, List.flatMap_cons, List.length_append, List.length_cons] at ih ⊢; rw [ih, smallB_len]; omega

theorem textB_len (s : ByteArray) : (textB s).length ≤ 65537 + 1 := by
  unfold textB
  have : s.size % 65536 < 65536 := Nat.mod_lt _ (by omega)
  simp [smallB_len]
  omega

theorem putsBy_len (l : List (ByteArray × ByteArray)) : (putsBy l).length ≤ 131076 * l.length := by
  induction l with
  | nil => simp [putsBy]
  | cons x l ih =>
    have h1 := textB_len x.1
    have h2 := textB_len x.2
    simp only [putsBy, List.flatMap_cons, List.length_append, List.length_cons] at ih ⊢
    omega

/-- 'append(x, y...)' within a region that draws its order. -/
theorem step_append_b {ops : Array Oper} {o : Oper} {a : Act} {w : World} {K : Act → World → Prop} {Q : Exit → Act → World → Prop} {E : Prop} (hgd : o.guard = none) (s x : Operand)
    (ho : o.op = .call { callee := .builtin .append, args := #[s, x], argTypes := #[45, 45] })
    (v : Value) (l : List UInt8) (hs : a.eval s = v) (hown : w.ownsRow 0 5 1 v l.length (u8s l))
    (ao : Option Addr) (c : Nat) (l2 : List UInt8) (hx : a.eval x = .slice ao l2.length c) (hsl : Sl w ao c l2) (hb : l.length + l2.length ≤ 140737488355328)
    (h : ∀ v' w', w'.ownsRow 0 5 1 v' (l ++ l2).length (u8s (l ++ l2)) → w.grownBy w' v.ownBlock → (v'.ownBlock = v.ownBlock ∨ v'.ownBlock = some w.heap.size) → K (a.put o.dst v') w') :
    if Region.wanted o (yielded ops a.tmps) = true then Oper.wp Tryz.prog o a w K Q else E := by
  have hw : Region.wanted o (yielded ops a.tmps) = true := by simp [Region.wanted, hgd]
  rw [if_pos hw]
  obtain ⟨i0, hi, hz0, hz1, hz2⟩ := info_parts Tryz.u8row
  rcases hsl with ⟨rfl, rfl, rfl⟩ | ⟨A, rfl, h1, h2, hc⟩
  · have hr := run_append_owned_none (P := Tryz.prog) (w := w) 0 45 o.type 5 i0 1 Tryz.underlying45 hi v l.length (u8s l) hown
    unfold Oper.wp execOp
    simp only [ho, resolve, invoke, builtin, Sem.run_bind, Sem.run_pure, Result.andThen_ok, List.map_toArray, List.map_cons, List.map_nil, hs, hx, List.length_nil, hr]
    exact h v w (by simpa using hown) (World.grownBy.refl _ _) (.inl rfl)
  · obtain ⟨v', w', hr, h2, h3, h4, h5⟩ := run_append_own_at (P := Tryz.prog) w 0 45 o.type 5 i0 (.int .u8 0) 1 1 Tryz.underlying45 hi hz0 hz1 hz2 rfl (by decide) v l.length (u8s l) hown A l2.length c (u8s l2) (by rw [u8s_length]; omega) (Sl.cells (.inr ⟨A, rfl, h1, h2, hc⟩)) (u8s_oneCell l2) (by unfold maxLen; omega) (by omega) (Nat.zero_le _)
    unfold Oper.wp execOp
    simp only [ho, resolve, invoke, builtin, Sem.run_bind, Sem.run_pure, Result.andThen_ok, List.map_toArray, List.map_cons, List.map_nil, hs, hx, hr]
    exact h v' w' (by rw [List.length_append, u8s_append]; exact h2) h3 h5

/-- A new row of bytes, the call's own: its form, its bytes, where it lies. -/
structure New (w w' : World) (ao : Option Addr) (n c : Nat) (l : List UInt8) : Prop where
  own : w'.ownsRow 0 5 1 (.slice ao n c) l.length (u8s l)
  len : n = l.length
  sl : Sl w' ao c l
  up : ∀ g, (Value.slice ao n c).ownBlock = some g → w.heap.size ≤ g
  turn : Turn [] w w'

theorem New.of {w w' : World} {v : Value} {l : List UInt8} (h : w'.ownsRow w.heap.size 5 1 v l.length (u8s l)) (t : Turn [] w w') : ∃ ao n c, v = .slice ao n c ∧ New w w' ao n c l := by
  obtain ⟨ao, c, rfl, hs, hu⟩ := Sl.of_owns h
  refine ⟨ao, l.length, c, rfl, own_zero h, rfl, hs, fun g hg => (h.lt g hg).1, t⟩

theorem grow_turn {w1 w4 w5 : World} {r : Option Nat} (t : Turn [] w1 w4) (g : w4.grownBy w5 r) (h : ∀ k, r = some k → w1.heap.size ≤ k) : Turn [] w1 w5 :=
  t.trans (Turn.grown (l := r.toList) g (fun k hk => .inl (by simp [hk]))) (fun i hi => .inr (h i (by simpa using hi)))

theorem grow_low {w1 w4 : World} {a r : Option Nat} (t : Turn [] w1 w4) (h : ∀ k, r = some k → w1.heap.size ≤ k) (e : a = r ∨ a = some w4.heap.size) : ∀ k, a = some k → w1.heap.size ≤ k := by
  intro k hk
  rcases e with e | e
  · exact h k (e.symm.trans hk)
  · rw [e] at hk
    injection hk with hk
    rw [← hk]
    exact t.size

end Go.Proofs.YtjmainefmiefcaaGreat


/-
  Unlike records have unlike bytes.
-/
namespace Go.Proofs.YtjmainefmiefcaaGreat
open Go.RowKit

theorem taken_front (a r : List UInt8) (n : Nat) (h : a.length = n) : taken (a ++ r) false n = a ∧ after (a ++ r) false n = r ∧ canTake (a ++ r) false n = true := by
  subst h
  have hc : canTake (a ++ r) false a.length = true := by simp [canTake]
  exact ⟨by simp [taken, hc], by simp [after, hc], hc⟩

theorem leN_small (n : Int) : leN (smallB n) = (n % 65536).toNat := by
  have h0 := u8_ofNat (n := n % 256) (by omega) (by omega)
  have h1 := u8_ofNat (n := n / 256 % 256) (by omega) (by omega)
  simp only [smallB, leN]
  omega

theorem longN_long (n : Int) (h : -9223372036854775808 ≤ n ∧ n ≤ 9223372036854775807) : longN (longB n) = n := by
  have h0 := u8_ofNat (n := n % 256) (by omega) (by omega)
  have h1 := u8_ofNat (n := n / 256 % 256) (by omega) (by omega)
  have h2 := u8_ofNat (n := n / 65536 % 256) (by omega) (by omega)
  have h3 := u8_ofNat (n := n / 16777216 % 256) (by omega) (by omega)
  have h4 := u8_ofNat (n := n / 4294967296 % 256) (by omega) (by omega)
  have h5 := u8_ofNat (n := n / 1099511627776 % 256) (by omega) (by omega)
  have h6 := u8_ofNat (n := n / 281474976710656 % 256) (by omega) (by omega)
  have h7 := u8_ofNat (n := n / 72057594037927936 % 256) (by omega) (by omega)
  have e : ((leN (longB n) : Nat) : Int) = n % 18446744073709551616 := by
    unfold longB
    simp only [leN, Int.natCast_add, Int.natCast_mul]
    omega
  unfold longN
  rw [e]
  unfold wrap64
  omega

theorem small_inj {a b : Int} {r s : List UInt8} (ha : 0 ≤ a ∧ a < 65536) (hb : 0 ≤ b ∧ b < 65536) (h : smallB a ++ r = smallB b ++ s) : a = b ∧ r = s := by
  obtain ⟨h1, h2⟩ := List.append_inj h rfl
  refine ⟨?_, h2⟩
  have := congrArg leN h1
  rw [leN_small, leN_small] at this
  omega

theorem long_inj {a b : Int} {r s : List UInt8} (ha : -9223372036854775808 ≤ a ∧ a ≤ 9223372036854775807) (hb : -9223372036854775808 ≤ b ∧ b ≤ 9223372036854775807) (h : longB a ++ r = longB b ++ s) : a = b ∧ r = s := by
  obtain ⟨h1, h2⟩ := List.append_inj h rfl
  refine ⟨?_, h2⟩
  have := congrArg longN h1
  rwa [longN_long _ ha, longN_long _ hb] at this

theorem textB_low (x : ByteArray) (hx : x.size < 65536) : textB x = smallB (x.size : Nat) ++ x.data.toList := by
  unfold textB
  rw [Nat.mod_eq_of_lt hx, List.take_of_length_le (by simp)]

theorem text_inj {x y : ByteArray} {r s : List UInt8} (hx : x.size < 65536) (hy : y.size < 65536) (h : textB x ++ r = textB y ++ s) : x = y ∧ r = s := by
  rw [textB_low x hx, textB_low y hy, List.append_assoc, List.append_assoc] at h
  obtain ⟨h1, h2⟩ := small_inj (by omega) (by omega) h
  have h1 : x.size = y.size := by omega
  obtain ⟨h3, h4⟩ := List.append_inj h2 (by simpa using h1)
  exact ⟨Go.WideShapes.bytes_inj h3, h4⟩

theorem parts_inj : ∀ (l m : List Int), l.length = m.length → (∀ i, i < l.length → 0 ≤ l.getD i 0 ∧ l.getD i 0 < 65536) → (∀ i, i < m.length → 0 ≤ m.getD i 0 ∧ m.getD i 0 < 65536) → partsBy l = partsBy m → l = m
  | [], [], _, _, _, _ => rfl
  | [], _ :: _, h, _, _, _ => by simp at h
  | _ :: _, [], h, _, _, _ => by simp at h
  | x :: l, y :: m, h, hl, hm, e => by
    have e' : smallB x ++ partsBy l = smallB y ++ partsBy m := e
    obtain ⟨h1, h2⟩ := small_inj (hl 0 (by simp)) (hm 0 (by simp)) e'
    have h1 : x = y := h1
    have := parts_inj l m (by simpa using h) (fun i hi => hl (i + 1) (by simpa using hi)) (fun i hi => hm (i + 1) (by simpa using hi)) h2
    rw [h1, this]

theorem puts_inj : ∀ (l m : List (ByteArray × ByteArray)), l.length = m.length → (∀ i, i < l.length → (l.getD i putNone).1.size < 65536 ∧ (l.getD i putNone).2.size < 65536) → (∀ i, i < m.length → (m.getD i putNone).1.size < 65536 ∧ (m.getD i putNone).2.size < 65536) → putsBy l = putsBy m → l = m
  | [], [], _, _, _, _ => rfl
  | [], _ :: _, h, _, _, _ => by simp at h
  | _ :: _, [], h, _, _, _ => by simp at h
  | (x1, x2) :: l, (y1, y2) :: m, h, hl, hm, e => by
    have e' : textB x1 ++ (textB x2 ++ putsBy l) = textB y1 ++ (textB y2 ++ putsBy m) := by
      have : putsBy ((x1, x2) :: l) = putsBy ((y1, y2) :: m) := e
      simpa [putsBy] using this
    obtain ⟨h1, h2⟩ := text_inj (hl 0 (by simp)).1 (hm 0 (by simp)).1 e'
    obtain ⟨h3, h4⟩ := text_inj (hl 0 (by simp)).2 (hm 0 (by simp)).2 h2
    have h1 : x1 = y1 := h1
    have h3 : x2 = y2 := h3
    have := puts_inj l m (by simpa using h) (fun i hi => hl (i + 1) (by simpa using hi)) (fun i hi => hm (i + 1) (by simpa using hi)) h4
    rw [h1, h3, this]

/-- What may be of a record's parts and puts, by its kind. -/
theorem recB_says {r : RecV} (h : recB r = true) : 1 ≤ r.kind ∧ r.kind ≤ 9 ∧ 0 < homeZ r.tid ∧ (r.kind = 2 ∨ r.id = 0) ∧ (r.kind = 2 → 0 < homeZ r.id) ∧ (r.kind = 5 ∨ r.yes = false) ∧ (r.kind = 6 ∨ r.kind = 8 ∨ r.kind = 9 ∨ r.parts = []) ∧ (r.kind = 4 ∨ r.kind = 7 ∨ r.puts = []) ∧
    r.parts.length ≤ 7 ∧ (∀ i, i < r.parts.length → brokerB (r.parts.getD i 0) = true) ∧ r.puts.length ≤ 10 ∧ (∀ i, i < r.puts.length → putB (r.puts.getD i putNone) = true) := by
  obtain ⟨k, t, d, y, P, Q⟩ := r
  rw [recB_own] at h
  simp only [Bool.and_eq_true, decide_eq_true_eq] at h
  obtain ⟨⟨h1, h9⟩, ht, hi, hy, hp, hq⟩ := h
  have ht : 0 < homeZ t := by simpa [tidB] using ht
  simp only [partsB, Bool.and_eq_true, decide_eq_true_eq] at hp
  simp only [oputsB, Bool.and_eq_true, decide_eq_true_eq] at hq
  obtain ⟨⟨hp1, hp2⟩, hp3⟩ := hp
  obtain ⟨hq1, hq2⟩ := hq
  have hput : ∀ i, i < Q.length → putB (Q.getD i putNone) = true := fun i hi => by
    have e : Q.getD i putNone = Q[i] := by simp [List.getD, hi]
    rw [e]
    exact List.all_eq_true.1 hq2 _ (List.getElem_mem hi)
  have hbr : ∀ i, i < P.length → brokerB (P.getD i 0) = true := fun i hi => (hp3 i hi).1
  dsimp only
  have hk : k = 1 ∨ k = 2 ∨ k = 3 ∨ k = 4 ∨ k = 5 ∨ k = 6 ∨ k = 7 ∨ k = 8 ∨ k = 9 := by omega
  have hno : ∀ {α : Type} {l : List α}, (l.length : Int) ≤ 0 → l = [] := fun h => List.eq_nil_of_length_eq_zero (by omega)
  refine ⟨h1, h9, ht, ?_, ?_, ?_, ?_, ?_, ?_, hbr, ?_, hput⟩
  all_goals clear hbr hput hp3 hq2
  · rcases hk with rfl | rfl | rfl | rfl | rfl | rfl | rfl | rfl | rfl <;> simp [idB, ownV] at hi ⊢ <;> exact hi
  · intro e
    subst e
    simpa [idB, ownV, tidB] using hi
  · rcases hk with rfl | rfl | rfl | rfl | rfl | rfl | rfl | rfl | rfl <;> simp [ownV] at hy ⊢ <;> exact hy
  · rcases hk with rfl | rfl | rfl | rfl | rfl | rfl | rfl | rfl | rfl <;> simp [ownV] at hp2 ⊢ <;> first | exact hp2 | omega
  · rcases hk with rfl | rfl | rfl | rfl | rfl | rfl | rfl | rfl | rfl <;> simp [ownV] at hq1 ⊢ <;> first | exact hq1 | omega
  · rcases hk with rfl | rfl | rfl | rfl | rfl | rfl | rfl | rfl | rfl <;> simp [ownV] at hp2 <;> first | omega | (rw [hp2]; simp)
  · rcases hk with rfl | rfl | rfl | rfl | rfl | rfl | rfl | rfl | rfl <;> simp [ownV] at hq1 <;> first | omega | (rw [hq1]; simp)

theorem home_ok {t : Int} (h : 0 < homeZ t) : -9223372036854775808 ≤ t ∧ t ≤ 9223372036854775807 := by
  unfold homeZ at h
  split at h <;> omega

theorem putB_sizes {p : ByteArray × ByteArray} (h : putB p = true) : p.1.size ≤ 8 ∧ p.2.size ≤ 60 := by
  unfold putB queueB bodyB at h
  simp only [Bool.and_eq_true, decide_eq_true_eq] at h
  omega

theorem broker_ok {n : Int} (h : brokerB n = true) : 0 ≤ n ∧ n < 65536 := by
  have := of_decide_eq_true h
  omega

theorem recBytes_inj {a b : RecV} (ha : recB a = true) (hb : recB b = true) (h : recBytes a = recBytes b) : a = b := by
  obtain ⟨a1, a9, at_, ai, ai2, ay, ap, aq, apl, apb, aql, aqb⟩ := recB_says ha
  obtain ⟨b1, b9, bt, bi, bi2, by_, bp, bq, bpl, bpb, bql, bqb⟩ := recB_says hb
  obtain ⟨ka, ta, da, ya, Pa, Qa⟩ := a
  obtain ⟨kb, tb, db, yb, Pb, Qb⟩ := b
  dsimp only at *
  unfold recBytes at h
  dsimp only at h
  rw [List.append_assoc, List.append_assoc] at h
  obtain ⟨hk, h⟩ := small_inj (by omega) (by omega) h
  obtain ⟨ht, h⟩ := long_inj (home_ok at_) (home_ok bt) h
  subst hk ht
  have hk : ka = 1 ∨ ka = 2 ∨ ka = 3 ∨ ka = 4 ∨ ka = 5 ∨ ka = 6 ∨ ka = 7 ∨ ka = 8 ∨ ka = 9 := by omega
  have hPs : smallB (Pa.length : Int) ++ partsBy Pa = smallB (Pb.length : Int) ++ partsBy Pb → Pa = Pb := fun h => by
    obtain ⟨h1, h2⟩ := small_inj (by omega) (by omega) h
    exact parts_inj Pa Pb (by omega) (fun i hi => broker_ok (apb i hi)) (fun i hi => broker_ok (bpb i hi)) h2
  have hQs : smallB (Qa.length : Int) ++ putsBy Qa = smallB (Qb.length : Int) ++ putsBy Qb → Qa = Qb := fun h => by
    obtain ⟨h1, h2⟩ := small_inj (by omega) (by omega) h
    exact puts_inj Qa Qb (by omega) (fun i hi => by have := putB_sizes (aqb i hi); omega) (fun i hi => by have := putB_sizes (bqb i hi); omega) h2
  clear apb bpb aqb bqb ha hb
  rcases hk with rfl | rfl | rfl | rfl | rfl | rfl | rfl | rfl | rfl
  · simp at ai ay ap aq bi by_ bp bq
    simp [ai, ay, ap, aq, bi, by_, bp, bq]
  · simp at ay ap aq by_ bp bq
    have h : longB da ++ [] = longB db ++ [] := by rw [List.append_nil, List.append_nil]; exact h
    have := (long_inj (home_ok (ai2 rfl)) (home_ok (bi2 rfl)) h).1
    simp [this, ay, ap, aq, by_, bp, bq]
  · simp at ai ay ap aq bi by_ bp bq
    simp [ai, ay, ap, aq, bi, by_, bp, bq]
  · simp at ai ay ap bi by_ bp
    have := hQs h
    simp [ai, ay, ap, bi, by_, bp, this]
  · simp at ai ap aq bi bp bq
    have h : [if ya then (1 : UInt8) else 0] = [if yb then 1 else 0] := h
    have : ya = yb := by cases ya <;> cases yb <;> simp at h ⊢
    simp [ai, ap, aq, bi, bp, bq, this]
  · simp at ai ay aq bi by_ bq
    have := hPs h
    simp [ai, ay, aq, bi, by_, bq, this]
  · simp at ai ay ap bi by_ bp
    have := hQs h
    simp [ai, ay, ap, bi, by_, bp, this]
  · simp at ai ay aq bi by_ bq
    have := hPs h
    simp [ai, ay, aq, bi, by_, bq, this]
  · simp at ai ay aq bi by_ bq
    have := hPs h
    simp [ai, ay, aq, bi, by_, bq, this]

theorem recBytes_long (r : RecV) : 10 ≤ (recBytes r).length := by
  unfold recBytes
  simp [smallB_len, longB_len]
  omega

end Go.Proofs.YtjmainefmiefcaaGreat


/-
  What is asked of rec: three contracts.
-/
namespace Go.Proofs.YtjmainefmiefcaaGreat
open Go.RowKit

def recNone : RecV := ⟨0, 0, 0, false, [], []⟩

/-- Numbers that an int64 bears. -/
def RecV.fit (r : RecV) : Prop := okI r.kind ∧ okI r.tid ∧ okI r.id

/-- What Encode, Decode, Eq of package rec answer. -/
structure RecFace : Prop where
  enc : ∀ (r : RecV) (w : World) (ap : Option Addr) (cp : Nat) (aq : Option Addr) (cq : Nat), Il w ap cp r.parts → Ps w aq cq r.puts → r.fit →
    Calls Tryz.prog 66 #[.agg (r.cells ap cp aq cq)] w fun e w' => ∃ v, e = .returned v ∧ (recB r = true → w'.ownsRow w.heap.size 5 1 v (recBytes r).length (u8s (recBytes r))) ∧ (recB r = false → v = .slice none 0 0) ∧ Turn [] w w'
  dec : ∀ (l : List UInt8) (w : World) (ao : Option Addr) (c : Nat), Sl w ao c l →
    Calls Tryz.prog 67 #[.slice ao l.length c] w fun e w' => ∃ (x : RecV) (ap : Option Addr) (cp : Nat) (aq : Option Addr) (cq : Nat) (err : Int), e = .returned (.tuple #[.agg (x.cells ap cp aq cq), .int .i64 err]) ∧ Il w' ap cp x.parts ∧ Ps w' aq cq x.puts ∧ x.fit ∧
      (∀ A, ap = some A → w.heap.size ≤ A.block) ∧ (∀ A, aq = some A → w.heap.size ≤ A.block) ∧ Turn [] w w' ∧
      ((err = 0 ∧ recB x = true ∧ recBytes x = l) ∨ (err = 1 ∧ x = recNone ∧ ∀ r, recB r = true → recBytes r ≠ l))
  eq : ∀ (a b : RecV) (w : World) (p1 q1 p2 q2 : Option Addr) (c1 e1 c2 e2 : Nat), Il w p1 c1 a.parts → Ps w q1 e1 a.puts → Il w p2 c2 b.parts → Ps w q2 e2 b.puts →
    Calls Tryz.prog 75 #[.agg (a.cells p1 c1 q1 e1), .agg (b.cells p2 c2 q2 e2)] w fun e w' => e = .returned (.bool (eqRecB a b)) ∧ Turn [] w w'

end Go.Proofs.YtjmainefmiefcaaGreat


/-
  begun: a name, a number, a record.
-/
namespace Go.Proofs.YtjmainefmiefcaaGreat
open Go.RowKit

def begR : RecV := ⟨4, 8589934597, 0, false, [], [(⟨#[113]⟩, ⟨#[98]⟩)]⟩

theorem begR_ok : recB begR = true := by decide +kernel
theorem begR_fit : begR.fit := by unfold RecV.fit okI begR; simp
theorem recNone_fit : recNone.fit := by unfold RecV.fit okI recNone; simp

theorem nil_test (w : World) (a : Option Addr) (n c : Nat) : (binOp .eql 45 (.slice a n c) (.slice none 0 0)).run Tryz.prog w = .ok (.bool a.isNone) w :=
  Lib.run_eql_slice_nil w _ _ a n c 0 0 Tryz.underlying45

theorem lawBegun_calls (w : World) : Calls Tryz.prog 68 #[] w fun e w' => e = .returned (.bool true) ∧ Turn [] w w' := by
  have C := Lib.hid (begun_calls w)
  go_enter Tryz.func68, Tryz.ntmps68
  go_wp2_with fail
  refine C.out.mono ?_
  rintro e w1 ⟨rfl, hb⟩
  have T := Lib.hid (Turn.of_below hb [])
  clear hb
  go_wp2
  go_ret
  exact ⟨rfl, T.out⟩

theorem begQ (w : World) : Calls Tryz.prog 69 #[.string ⟨#[97, 98, 99]⟩] w fun e w' => e = .returned (.bool true) ∧ Turn [] w w' := by
  have h := kindQueue_calls ⟨#[97, 98, 99]⟩ w
  rwa [show queueB ⟨#[97, 98, 99]⟩ = true from by decide +kernel] at h
theorem begQ0 (w : World) : Calls Tryz.prog 69 #[.string ⟨#[]⟩] w fun e w' => e = .returned (.bool false) ∧ Turn [] w w' := by
  have h := kindQueue_calls ⟨#[]⟩ w
  rwa [show queueB ⟨#[]⟩ = false from by decide +kernel] at h
theorem begQ1 (w : World) : Calls Tryz.prog 69 #[.string ⟨#[65]⟩] w fun e w' => e = .returned (.bool false) ∧ Turn [] w w' := by
  have h := kindQueue_calls ⟨#[65]⟩ w
  rwa [show queueB ⟨#[65]⟩ = false from by decide +kernel] at h
theorem begB (w : World) : Calls Tryz.prog 70 #[.string ⟨#[]⟩] w fun e w' => e = .returned (.bool true) ∧ w = w' := by
  have h := kindBody_calls ⟨#[]⟩ w
  rwa [show bodyB ⟨#[]⟩ = true from by decide +kernel] at h
theorem begT (w : World) : Calls Tryz.prog 71 #[.int .i64 8589934597] w fun e w' => e = .returned (.bool true) ∧ w = w' := by
  have h := kindTid_calls 8589934597 w (by omega)
  rwa [show decide (0 < homeZ 8589934597) = true from by decide +kernel] at h
theorem begT0 (w : World) : Calls Tryz.prog 71 #[.int .i64 8589934592] w fun e w' => e = .returned (.bool false) ∧ w = w' := by
  have h := kindTid_calls 8589934592 w (by omega)
  rwa [show decide (0 < homeZ 8589934592) = false from by decide +kernel] at h
theorem begH (w : World) : Calls Tryz.prog 72 #[.int .i64 8589934597] w fun e w' => e = .returned (.int .i64 2) ∧ w = w' := by
  have h := kindHome_calls 8589934597 w (by omega)
  rwa [show homeZ 8589934597 = 2 from by decide +kernel] at h
theorem begP (w : World) : Calls Tryz.prog 74 #[.agg #[.int .i64 5, .int .i64 1, .int .i64 2, .int .i64 8589934597, .int .i64 0, .bool false]] w fun e w' => e = .returned (.bool true) ∧ Turn [] w w' := by
  have h := kindPacket_calls ⟨5, 1, 2, 8589934597, 0, false⟩ w (by dsimp only; omega)
  rwa [show pacB ⟨5, 1, 2, 8589934597, 0, false⟩ = true from by decide +kernel] at h
theorem begN (w : World) : Calls Tryz.prog 73 #[.agg #[.int .i64 0, .int .i64 0, .int .i64 0, .bool false, .slice none 0 0, .slice none 0 0]] w fun e w' => e = .returned (.bool false) ∧ Turn [] w w' := by
  have h := kindRecord_calls recNone (w := w) (ap := none) (cp := 0) (aq := none) (cq := 0) (.inl ⟨rfl, rfl, rfl⟩) (.inl ⟨rfl, rfl, rfl⟩) (by unfold recNone; dsimp only; omega) (by unfold recNone; dsimp only; omega)
  rwa [show recB recNone = false from by decide +kernel] at h

def begCells (aq : Option Addr) (cp cq : Nat) (ap : Option Addr) : Array Value := #[.int .i64 4, .int .i64 8589934597, .int .i64 0, .bool false, .slice ap 0 cp, .slice aq 1 cq]

theorem six_of {w : World} {g : Nat} {v0 v1 v2 v3 v4 v5 : Value} {t : TypeId} {fr : Nat × Nat} (h : w.heap[g]? = some (.cells #[v0, v1, v2, v3, v4, v5] t fr)) :
    w.cell? ⟨g, 0, none⟩ = some v0 ∧ w.cell? ⟨g, 1, none⟩ = some v1 ∧ w.cell? ⟨g, 2, none⟩ = some v2 ∧ w.cell? ⟨g, 3, none⟩ = some v3 ∧ w.cell? ⟨g, 4, none⟩ = some v4 ∧ w.cell? ⟨g, 5, none⟩ = some v5 := by
  refine ⟨?_, ?_, ?_, ?_, ?_, ?_⟩ <;> rw [cell_of_row _ _ _ _ _ _ h] <;> rfl

set_option maxHeartbeats 4000000 in
set_option maxRecDepth 100000 in
theorem begun8_calls (F : RecFace) (w : World) : Calls Tryz.prog 52 #[] w fun e w' => e = .returned (.bool true) ∧ Turn [] w w' := by
  have CM := Lib.hid (fun w => kindMake_calls 2 5 w)
  rw [show makeZ 2 5 = 8589934597 from by decide +kernel] at CM
  go_enter Tryz.func52, Tryz.ntmps52
  go_wp2_with fail
  refine (CM.out _).mono ?_
  rintro e w1 ⟨rfl, rfl⟩
  go_wp2_with fail
  obtain ⟨q, hqd⟩ : ∃ q, q = w.heap.size := ⟨_, rfl⟩
  obtain ⟨w1, hw1⟩ : ∃ w1, w1 = (w.alloc (.cells #[.string ⟨#[113]⟩, .string ⟨#[98]⟩] 28)).alloc (.cells #[.int .i64 4, .int .i64 8589934597, .int .i64 0, .bool false, .slice none 0 0, .slice (some ⟨w.heap.size, 0, none⟩) 1 1] 100) := ⟨_, rfl⟩
  have t1 : Turn [] w w1 := by rw [hw1]; exact (Turn.alloc [] w _).trans (Turn.alloc [] _ _) (by simp)
  have b1 : w1.heap[q + 1]? = some (.cells #[.int .i64 4, .int .i64 8589934597, .int .i64 0, .bool false, .slice none 0 0, .slice (some ⟨q, 0, none⟩) 1 1] 100) := by
    rw [hw1, hqd]; exact heap_alloc2_new w _ _
  have b0 : w1.heap[q]? = some (.cells #[.string ⟨#[113]⟩, .string ⟨#[98]⟩] 28) := by
    rw [hw1, hqd]; exact heap_alloc2_old w _ _
  have hps : Ps w1 (some ⟨q, 0, none⟩) 1 begR.puts := .inr ⟨_, rfl, by simp [begR], by simp [maxLen], fun i hi => by
    have : i = 0 := by simpa [begR] using hi
    subst this
    refine ⟨?_, ?_, by decide +kernel, by decide +kernel⟩
    · show w1.cell? ⟨q, 0, none⟩ = _
      rw [cell_of_row _ _ _ _ _ _ b0]; rfl
    · show w1.cell? ⟨q, 1, none⟩ = _
      rw [cell_of_row _ _ _ _ _ _ b0]; rfl⟩
  rw [← hw1, ← hqd]
  have T1 := Lib.hid t1
  have B1 := Lib.hid b1
  have HPS := Lib.hid hps
  clear hw1 hqd t1 b1 b0 hps CM
  refine (F.enc begR w1 none 0 (some ⟨q, 0, none⟩) 1 (.inl ⟨rfl, rfl, rfl⟩) HPS.out begR_fit).mono ?_
  rintro e w2 ⟨v2, rfl, ho, -, t2⟩
  obtain ⟨a2, c2, rfl, hs2, -⟩ := Sl.of_owns (ho begR_ok)
  have T2 := Lib.hid t2
  have CD := Lib.hid (F.dec (recBytes begR) w2 a2 c2 hs2)
  obtain ⟨n2, hn2⟩ : ∃ n, n = (recBytes begR).length := ⟨_, rfl⟩
  rw [← hn2] at CD ⊢
  clear ho t2 hs2 hn2
  go_wp2_with fail
  refine CD.out.mono ?_
  rintro e w3 ⟨x, ap, cp, aq, cq, err, rfl, hpx, hqx, -, -, -, t3, hx⟩
  have hx2 : err = 0 ∧ x = begR := by
    rcases hx with ⟨h1, h2, h3⟩ | ⟨h1, h2, h3⟩
    · exact ⟨h1, recBytes_inj h2 begR_ok h3⟩
    · exact absurd rfl (h3 begR begR_ok)
  obtain ⟨rfl, rfl⟩ := hx2
  have T3 := Lib.hid (T2.out.trans t3 (by simp))
  have HPX := Lib.hid hpx
  have HQX := Lib.hid hqx
  clear CD hx t3 hpx hqx T2
  unfold RecV.cells begR
  dsimp only [List.length_nil, List.length_cons]
  go_wp2_with fail
  obtain ⟨g, hg⟩ : ∃ g, g = w3.heap.size := ⟨_, rfl⟩
  obtain ⟨w4, hw4⟩ : ∃ w4, w4 = w3.alloc (.cells #[.int .i64 4, .int .i64 8589934597, .int .i64 0, .bool false, .slice ap 0 cp, .slice aq 1 cq] 100) := ⟨_, rfl⟩
  have t4 : Turn [] w3 w4 := by rw [hw4]; exact Turn.alloc [] w3 _
  have b4 : w4.heap[g]? = some (.cells #[.int .i64 4, .int .i64 8589934597, .int .i64 0, .bool false, .slice ap 0 cp, .slice aq 1 cq] 100) := by
    rw [hw4, hg]; exact heap_alloc_new w3 _
  rw [← hw4, ← hg]
  have T4 := Lib.hid (T3.out.trans t4 (by simp))
  have HC : Hid (∀ wx, Turn [] w4 wx → wx.heap[g]? = some (.cells #[.int .i64 4, .int .i64 8589934597, .int .i64 0, .bool false, .slice ap 0 cp, .slice aq 1 cq] 100) ∧ Il wx ap cp begR.parts ∧ Ps wx aq cq begR.puts) := Lib.hid (fun wx tx => ⟨tx.heap b4 (by simp), (HPX.out.turn t4).turn tx, (HQX.out.turn t4).turn tx⟩)
  have HC1 : Hid (∀ wx, Turn [] w1 wx → wx.heap[q + 1]? = some (.cells #[.int .i64 4, .int .i64 8589934597, .int .i64 0, .bool false, .slice none 0 0, .slice (some ⟨q, 0, none⟩) 1 1] 100) ∧ Ps wx (some ⟨q, 0, none⟩) 1 begR.puts) := Lib.hid (fun wx tx => ⟨tx.heap B1.out (by simp), HPS.out.turn tx⟩)
  clear hw4 hg t4 b4 HPX HQX HPS T3 B1
  refine (F.dec [] w4 none 0 (Sl.nil _)).mono ?_
  rintro e w5 ⟨x, ap5, cp5, aq5, cq5, err, rfl, -, -, -, -, -, t5, hx⟩
  have hx2 : err = 1 ∧ x = recNone := by
    rcases hx with ⟨h1, h2, h3⟩ | ⟨h1, h2, h3⟩
    · have := recBytes_long x
      rw [h3] at this
      simp at this
    · exact ⟨h1, h2⟩
  obtain ⟨rfl, rfl⟩ := hx2
  have T5 := Lib.hid t5
  clear hx t5
  unfold RecV.cells recNone
  dsimp only [List.length_nil, List.length_cons]
  go_wp2_with fail
  obtain ⟨w6, hw6⟩ : ∃ w6, w6 = w5.alloc (.cells #[.int .i64 0, .int .i64 0, .int .i64 0, .bool false, .slice ap5 0 cp5, .slice aq5 0 cq5] 100) := ⟨_, rfl⟩
  have T6 : Hid (Turn [] w4 w6) := Lib.hid (by rw [hw6]; exact T5.out.trans (Turn.alloc [] w5 _) (by simp))
  rw [← hw6]
  clear hw6 T5
  refine (lawBegun_calls w6).mono ?_
  rintro e w7 ⟨rfl, t7⟩
  have T7 := Lib.hid (T6.out.trans t7 (by simp))
  clear t7 T6
  go_wp2_with fail
  refine (begQ w7).mono ?_
  rintro e w8 ⟨rfl, t8⟩
  have T8 := Lib.hid (T7.out.trans t8 (by simp))
  clear t8 T7
  go_wp2_with fail
  refine (begQ0 w8).mono ?_
  rintro e w9 ⟨rfl, t9⟩
  have T9 := Lib.hid (T8.out.trans t9 (by simp))
  clear t9 T8
  go_wp2_with fail
  refine (begQ1 w9).mono ?_
  rintro e w10 ⟨rfl, t10⟩
  have T10 := Lib.hid (T9.out.trans t10 (by simp))
  clear t10 T9
  go_wp2_with fail
  refine (begB _).mono ?_
  rintro e w11 ⟨rfl, rfl⟩
  go_wp2_with fail
  refine (begT _).mono ?_
  rintro e w11 ⟨rfl, rfl⟩
  go_wp2_with fail
  refine (begH _).mono ?_
  rintro e w11 ⟨rfl, rfl⟩
  go_wp2_with fail
  refine (begT0 _).mono ?_
  rintro e w11 ⟨rfl, rfl⟩
  obtain ⟨x1, x2⟩ := HC1.out w10 (T4.out.trans T10.out (by simp))
  obtain ⟨k0, k1, k2, k3, k4, k5⟩ := six_of x1
  have HP10 := Lib.hid x2
  clear x1 x2
  go_wp2_with fail
  have CR := kindRecord_calls begR (ap := none) (cp := 0) (.inl ⟨rfl, rfl, rfl⟩) HP10.out (by unfold begR; dsimp only; omega) (by unfold begR; dsimp only; omega)
  rw [begR_ok] at CR
  refine CR.mono ?_
  rintro e w12 ⟨rfl, t12⟩
  have T12 := Lib.hid (T10.out.trans t12 (by simp))
  clear t12 T10 CR k0 k1 k2 k3 k4 k5
  go_wp2_with fail
  refine (begN w12).mono ?_
  rintro e w13 ⟨rfl, t13⟩
  have T13 := Lib.hid (T12.out.trans t13 (by simp))
  clear t13 T12
  go_wp2_with fail
  refine (begP w13).mono ?_
  rintro e w14 ⟨rfl, t14⟩
  have T14 := Lib.hid (T13.out.trans t14 (by simp))
  clear t14 T13
  obtain ⟨x1, x2⟩ := HC1.out w14 (T4.out.trans T14.out (by simp))
  obtain ⟨k0, k1, k2, k3, k4, k5⟩ := six_of x1
  obtain ⟨y1, y2, y3⟩ := HC.out w14 T14.out
  obtain ⟨m0, m1, m2, m3, m4, m5⟩ := six_of y1
  have HP14 := Lib.hid x2
  have HX14 := Lib.hid y2
  have HY14 := Lib.hid y3
  clear x1 x2 y1 y2 y3
  go_wp2_with fail
  have CE := F.eq begR begR w14 ap aq none (some ⟨q, 0, none⟩) cp cq 0 1 HX14.out HY14.out (.inl ⟨rfl, rfl, rfl⟩) HP14.out
  rw [show eqRecB begR begR = true from (eqRecB_iff _ _).2 rfl] at CE
  refine CE.mono ?_
  rintro e w15 ⟨rfl, t15⟩
  have T15 := Lib.hid (T14.out.trans t15 (by simp))
  clear t15 T14 CE k0 k1 k2 k3 k4 k5 m0 m1 m2 m3 m4 m5
  go_wp2_with fail
  refine (F.enc recNone w15 none 0 none 0 (.inl ⟨rfl, rfl, rfl⟩) (.inl ⟨rfl, rfl, rfl⟩) recNone_fit).mono ?_
  rintro e w16 ⟨v16, rfl, -, hv, t16⟩
  have hv := hv (by decide +kernel)
  subst hv
  have T16 := Lib.hid (T15.out.trans t16 (by simp))
  have hnil := nil_test w16 none 0 0
  clear t16 T15
  go_wp2
  go_ret
  exact ⟨rfl, T1.out.trans (T4.out.trans T16.out (by simp)) (by simp)⟩

end Go.Proofs.YtjmainefmiefcaaGreat


/-
  begun, over the contracts of a Sessions.
-/
namespace Go.Proofs.YtjmainefmiefcaaGreat
open Go.RowKit

variable {Ses : World → List Nat → Nat → Int → Nat → Int → Nat → List Sq → Prop}

/-- A Locks and a Sessions that are a law's own. -/
def LS (Ses : World → List Nat → Nat → Int → Nat → Int → Nat → List Sq → Prop) (w wx : World) (b nm : Nat) (ticks : Int) (Q : List Gq) (sb : Nat) (br : Int) (made : Nat) (tk : Int) (ns : Nat) (S : List Sq) : Prop :=
  ∃ ow os, Ls wx ow b nm ticks Q ∧ Ses wx os sb br made tk ns S ∧ (∀ k ∈ ow, k ∉ os) ∧ (∀ k ∈ ow, w.heap.size ≤ k) ∧ (∀ k ∈ os, w.heap.size ≤ k) ∧ Below w.heap.size w wx

theorem LS.bel {w wx : World} {b nm : Nat} {ticks : Int} {Q : List Gq} {sb : Nat} {br : Int} {made : Nat} {tk : Int} {ns : Nat} {S : List Sq} (h : LS Ses w wx b nm ticks Q sb br made tk ns S) : Below w.heap.size w wx := by
  obtain ⟨ow, os, h1, h2, h3, h4, h5, h6⟩ := h
  exact h6

theorem LS.quiet (F : SF Ses) {w wx w' : World} {b nm : Nat} {ticks : Int} {Q : List Gq} {sb : Nat} {br : Int} {made : Nat} {tk : Int} {ns : Nat} {S : List Sq} (h : LS Ses w wx b nm ticks Q sb br made tk ns S) (t : Turn [] wx w') : LS Ses w w' b nm ticks Q sb br made tk ns S := by
  obtain ⟨ow, os, h1, h2, h3, h4, h5, h6⟩ := h
  exact ⟨ow, os, h1.turn t (by simp), F.turn h2 t (by simp), h3, h4, h5, h6.trans (t.belowAll.mono h6.size)⟩

theorem LS.ls {w wx : World} {b nm : Nat} {ticks : Int} {Q : List Gq} {sb : Nat} {br : Int} {made : Nat} {tk : Int} {ns : Nat} {S : List Sq} (h : LS Ses w wx b nm ticks Q sb br made tk ns S) : ∃ ow, Ls wx ow b nm ticks Q := by
  obtain ⟨ow, os, h1, h2, h3, h4, h5, h6⟩ := h
  exact ⟨ow, h1⟩

theorem LS.ses {w wx : World} {b nm : Nat} {ticks : Int} {Q : List Gq} {sb : Nat} {br : Int} {made : Nat} {tk : Int} {ns : Nat} {S : List Sq} (h : LS Ses w wx b nm ticks Q sb br made tk ns S) : ∃ os, Ses wx os sb br made tk ns S := by
  obtain ⟨ow, os, h1, h2, h3, h4, h5, h6⟩ := h
  exact ⟨os, h2⟩

theorem LS.lock (F : SF Ses) {w wx : World} {b nm nm' : Nat} {ticks ticks' : Int} {Q Q' : List Gq} {sb : Nat} {br : Int} {made : Nat} {tk : Int} {ns : Nat} {S : List Sq} (h : LS Ses w wx b nm ticks Q sb br made tk ns S) {f : FuncId} {args : Array Value} {R : Ending → World → Prop}
    (hc : ∀ ow, Ls wx ow b nm ticks Q → Calls Tryz.prog f args wx (fun e w' => ∃ ow', R e w' ∧ Ls w' ow' b nm' ticks' Q' ∧ Stp ow ow' wx w')) : Calls Tryz.prog f args wx (fun e w' => R e w' ∧ LS Ses w w' b nm' ticks' Q' sb br made tk ns S) := by
  obtain ⟨ow, os, h1, h2, h3, h4, h5, h6⟩ := h
  refine (hc _ h1).mono ?_
  rintro e w' ⟨ow', hR, hL, hs⟩
  refine ⟨hR, ow', _, hL, F.turn (F.tight h2) hs.turn (fun k hk hm => h3 k hk (List.mem_filter.1 hm).1), fun k hk hm => ?_, fun k hk => ?_, fun k hk => h5 k (List.mem_filter.1 hk).1, h6.trans (hs.turn.below h4 h6.size)⟩
  · obtain ⟨hm1, hm2⟩ := List.mem_filter.1 hm
    rcases hs.new k hk with e1 | e1
    · exact h3 k e1 hm1
    · have : k < wx.heap.size := by simpa using hm2
      omega
  · rcases hs.new k hk with e1 | e1
    · exact h4 k e1
    · exact Nat.le_trans h6.size e1

theorem LS.sess {w wx : World} {b nm : Nat} {ticks : Int} {Q : List Gq} {sb : Nat} {br br' : Int} {made made' : Nat} {tk tk' : Int} {ns ns' : Nat} {S S' : List Sq} (h : LS Ses w wx b nm ticks Q sb br made tk ns S) {f : FuncId} {args : Array Value} {R : Ending → World → Prop}
    (hc : ∀ os, Ses wx os sb br made tk ns S → Calls Tryz.prog f args wx (fun e w' => ∃ os', R e w' ∧ Ses w' os' sb br' made' tk' ns' S' ∧ Stp os os' wx w')) : Calls Tryz.prog f args wx (fun e w' => R e w' ∧ LS Ses w w' b nm ticks Q sb br' made' tk' ns' S') := by
  obtain ⟨ow, os, h1, h2, h3, h4, h5, h6⟩ := h
  refine (hc _ h2).mono ?_
  rintro e w' ⟨os', hR, hL, hs⟩
  refine ⟨hR, _, os', h1.tight.turn hs.turn (fun k hk hm => h3 k (List.mem_filter.1 hm).1 hk), hL, fun k hk hm => ?_, fun k hk => h4 k (List.mem_filter.1 hk).1, fun k hk => ?_, h6.trans (hs.turn.below h5 h6.size)⟩
  · obtain ⟨hk1, hk2⟩ := List.mem_filter.1 hk
    rcases hs.new k hm with e1 | e1
    · exact h3 k hk1 e1
    · have : k < wx.heap.size := by simpa using hk2
      omega
  · rcases hs.new k hk with e1 | e1
    · exact h5 k e1
    · exact Nat.le_trans h6.size e1

theorem law6_calls (w : World) : Calls Tryz.prog 36 #[] w fun e w' => e = .returned (.bool true) ∧ Turn [] w w' := by
  have C := Lib.hid (begun6_calls w)
  go_enter Tryz.func36, Tryz.ntmps36
  go_wp2_with fail
  refine C.out.mono ?_
  rintro e w1 ⟨rfl, hb⟩
  have T := Lib.hid (Turn.of_below hb [])
  clear hb
  go_wp2
  go_ret
  exact ⟨rfl, T.out⟩

theorem law8_calls (F8 : RecFace) (w : World) : Calls Tryz.prog 37 #[] w fun e w' => e = .returned (.bool true) ∧ Turn [] w w' := by
  have C := Lib.hid (begun8_calls F8 w)
  go_enter Tryz.func37, Tryz.ntmps37
  go_wp2_with fail
  refine C.out.mono ?_
  rintro e w1 ⟨rfl, hb⟩
  have T := Lib.hid hb
  clear hb
  go_wp2
  go_ret
  exact ⟨rfl, T.out⟩

abbrev nX3 : ByteArray := ⟨#[120]⟩
abbrev nQ4 : ByteArray := ⟨#[113]⟩

def bq7 : Gq := ⟨7, 1, [(nQ4, nX3)], 0⟩
def bq5 : Gq := ⟨5, 1, [], 0⟩

set_option maxHeartbeats 8000000 in
set_option maxRecDepth 100000 in
theorem begun13_calls (F : SF Ses) (F8 : RecFace) : BegunOk := by
  intro w
  go_enter Tryz.func12, Tryz.ntmps12
  go_wp2_with fail
  refine (lnew_calls w).mono ?_
  rintro e w1 ⟨b, ow, rfl, h1, hl1, t1⟩
  have L1 := Lib.hid h1
  have LL1 := Lib.hid hl1
  have T1 := Lib.hid t1
  clear h1 hl1 t1
  go_wp2_with fail
  refine (F.new 3 w1 (by omega)).mono ?_
  rintro e w2 ⟨sb, os, rfl, h2, hl2, t2⟩
  have O2 : Hid (LS Ses w w2 b 0 0 [] sb 3 0 0 0 []) := Lib.hid ⟨_, os, L1.out.tight.turn t2 (by simp), h2, fun k hk hm => by
    have h3 := hl2 k hm
    have h4 : k < w1.heap.size := by simpa using (List.mem_filter.1 hk).2
    omega, fun k hk => LL1.out k (List.mem_filter.1 hk).1, fun k hk => Nat.le_trans T1.out.size (hl2 k hk), ((T1.out.trans t2 (by simp)).belowAll)⟩
  clear h2 hl2 t2 L1 LL1 T1
  go_wp2_with fail
  refine (O2.out.lock F (nm' := 1) (ticks' := 0) (Q' := [bq7]) (R := fun e _ => e = .returned (.bool true)) (fun ow h => by
    refine (put_on h (A := []) (B := []) (n := 0) (P := []) (.inl ⟨rfl, rfl, rfl, by simp⟩) (by unfold inI64; omega) (by simp) (by simp) (by omega) (by simp) (by omega) nQ4 nX3 (by decide) (by decide)).mono ?_
    rintro e w' ⟨ow', rfl, h2, s2⟩
    exact ⟨ow', rfl, h2, s2⟩)).mono ?_
  rintro e w3 ⟨rfl, o3⟩
  have O3 := Lib.hid o3
  clear o3 O2
  go_wp2_with fail
  refine (O3.out.lock F (nm' := 2) (ticks' := 0) (Q' := [bq5, bq7]) (R := fun e _ => e = .returned (.bool true)) (fun ow h => by
    refine (took_on h (A := []) (B := [bq7]) (n := 0) (P := []) (.inl ⟨rfl, rfl, rfl, by simp⟩) (by unfold inI64; omega) (by simp) (by simp [bq7]) (by omega) (by simp) (by omega)).mono ?_
    rintro e w' ⟨ow', rfl, h2, s2⟩
    exact ⟨ow', rfl, h2, s2⟩)).mono ?_
  rintro e w4 ⟨rfl, o4⟩
  have O4 := Lib.hid o4
  clear o4 O3
  have hmk : makeZ 3 (((0 : Nat) : Int) + 1) = 12884901889 := by decide +kernel
  go_wp2_with fail
  refine (O4.out.sess (br' := 3) (made' := 1) (tk' := 0) (ns' := 1) (S' := [⟨12884901889, 0, 0⟩]) (R := fun e _ => e = .returned (.tuple #[.int .i64 12884901889, .bool true])) (fun os h => by
    have := F.open_ok h (by simp) (by omega) (by omega)
    rw [hmk] at this
    refine this.mono ?_
    rintro e w' ⟨os', rfl, h2, s2⟩
    exact ⟨os', rfl, h2, s2⟩)).mono ?_
  rintro e w5 ⟨rfl, o5⟩
  have O5 := Lib.hid o5
  clear o5 O4 hmk
  go_wp2_with fail
  refine (O5.out.sess (br' := 3) (made' := 1) (tk' := 0) (ns' := 2) (S' := [⟨12884901889, 9, 0⟩]) (R := fun e _ => e = .returned (.bool true)) (fun os h => by
    refine (F.bind_is (A := []) (B := []) (q := ⟨12884901889, 0, 0⟩) (t := 9) h (by omega) (by unfold inI64; omega) (.inr (by simp))).mono ?_
    rintro e w' ⟨os', rfl, h2, s2⟩
    exact ⟨os', rfl, h2, s2⟩)).mono ?_
  rintro e w6 ⟨rfl, o6⟩
  have O6 := Lib.hid o6
  clear o6 O5
  go_wp2_with fail
  refine (O6.out.sess (br' := 3) (made' := 1) (tk' := 0) (ns' := 3) (S' := []) (R := fun e _ => e = .returned (.tuple #[.int .i64 9, .bool true])) (fun os h => by
    refine (F.close_is (A := []) (B := []) (q := ⟨12884901889, 9, 0⟩) h (by omega)).mono ?_
    rintro e w' ⟨os', rfl, h2, s2⟩
    exact ⟨os', rfl, h2, s2⟩)).mono ?_
  rintro e w7 ⟨rfl, o7⟩
  have O7 := Lib.hid o7
  clear o7 O6
  go_wp2_with fail
  refine (law6_calls _).mono ?_
  rintro e w8 ⟨rfl, t8⟩
  have O8 := Lib.hid (O7.out.quiet F t8)
  clear t8 O7
  go_wp2_with fail
  refine (law8_calls F8 _).mono ?_
  rintro e w9 ⟨rfl, t9⟩
  have O9 := Lib.hid (O8.out.quiet F t9)
  clear t9 O8
  go_wp2_with fail
  refine (O9.out.ls.choose_spec.n_calls (A := [bq5]) (B := []) (n := 1) (P := [(nQ4, nX3)]) (.inr ⟨0, rfl⟩) (by unfold inI64; omega) (by simp [bq5]) (by simp)).mono ?_
  rintro e w10 ⟨rfl, t10⟩
  have O10 := Lib.hid (O9.out.quiet F t10)
  clear t10 O9
  go_wp2_with fail
  refine (O10.out.ls.choose_spec.puts_calls (A := [bq5]) (B := []) (n := 1) (P := [(nQ4, nX3)]) (.inr ⟨0, rfl⟩) (by unfold inI64; omega) (by simp [bq5]) (by simp)).mono ?_
  rintro e w11 ⟨a11, c11, rfl, -, t11⟩
  have O11 := Lib.hid (O10.out.quiet F t11)
  clear t11 O10
  go_wp2_with fail
  refine (O11.out.ls.choose_spec.puts_calls (A := []) (B := [bq7]) (n := 1) (P := []) (.inr ⟨0, rfl⟩) (by unfold inI64; omega) (by simp) (by simp [bq7])).mono ?_
  rintro e w12 ⟨a12, c12, rfl, -, t12⟩
  have O12 := Lib.hid (O11.out.quiet F t12)
  clear t12 O11
  go_wp2_with fail
  refine (tids_calls O12.out.ls.choose_spec).mono ?_
  rintro e w13 ⟨g13, rfl, -, t13⟩
  have O13 := Lib.hid (O12.out.quiet F t13)
  clear t13 O12
  go_wp2_with fail
  refine (tids_calls O13.out.ls.choose_spec).mono ?_
  rintro e w14 ⟨g14, rfl, r14, t14⟩
  have c14 : w14.cell? ⟨g14, 0, none⟩ = some (.int .i64 5) := by
    have := r14.cells (g := g14) rfl 0 (.int .i64 5) rfl
    rwa [Addr.add_lit] at this
  have O14 := Lib.hid (O13.out.quiet F t14)
  clear t14 O13 r14
  go_wp2_with fail
  refine (lall_calls O14.out.ls.choose_spec).mono ?_
  rintro e w15 ⟨v15, rfl, r15, t15⟩
  obtain ⟨a15, c15, hv15⟩ := put_form r15
  subst hv15
  have O15 := Lib.hid (O14.out.quiet F t15)
  clear t15 O14 r15 c14
  go_wp2_with fail
  refine (O15.out.lock F (nm' := 2) (ticks' := 0) (Q' := [bq7]) (R := fun e _ => e = .returned (.bool true)) (fun ow h => by
    refine (drop_is (A := []) (B := [bq7]) (q := bq5) h (by simp) (by simp [bq5, bq7])).mono ?_
    rintro e w' ⟨ow', rfl, h2, s2⟩
    exact ⟨ow', rfl, h2, s2⟩)).mono ?_
  rintro e w16 ⟨rfl, o16⟩
  have O16 := Lib.hid o16
  clear o16 O15
  go_wp2_with fail
  refine (drop_none (A := []) (B := [bq7]) (x := 5) O16.out.ls.choose_spec (by simp) (by simp [bq7])).mono ?_
  rintro e w17 ⟨rfl, t17⟩
  have O17 := Lib.hid (O16.out.quiet F t17)
  clear t17 O16
  go_wp2_with fail
  refine (touch_none (A := []) (B := [bq7]) (x := 5) O17.out.ls.choose_spec (by simp) (by simp [bq7])).mono ?_
  rintro e w18 ⟨rfl, t18⟩
  have O18 := Lib.hid (O17.out.quiet F t18)
  clear t18 O17
  go_wp2_with fail
  refine (O18.out.lock F (nm' := 2) (ticks' := 0) (Q' := [bq7]) (R := fun e _ => e = .returned (.bool true)) (fun ow h => by
    refine (touch_is (A := []) (B := []) (q := bq7) h (by simp) (by simp)).mono ?_
    rintro e w' ⟨ow', rfl, h2, s2⟩
    exact ⟨ow', rfl, h2, s2⟩)).mono ?_
  rintro e w19 ⟨rfl, o19⟩
  have O19 := Lib.hid o19
  clear o19 O18
  go_wp2_with fail
  refine (F.of_none (t := 9) O19.out.ses.choose_spec (by unfold inI64; omega) (.inr (by simp))).mono ?_
  rintro e w20 ⟨rfl, t20⟩
  have B20 := Lib.hid (O19.out.quiet F t20).bel
  clear t20 O19
  go_wp2
  go_ret
  exact ⟨rfl, B20.out⟩

end Go.Proofs.YtjmainefmiefcaaGreat


/-
  Sessions, in memory: their state, and what stays of it.
-/
namespace Go.Proofs.YtjmainefmiefcaaGreat.Ss
open Go.RowKit

/-- A session's place in the timer. -/
def sa (q : Sq) : Int × Int := (q.id, q.heard)

def tz : Value := .int .i64 0

/-- The transaction of number y. -/
def tidAt : List Sq → Int → Int
  | [], _ => 0
  | q :: S, y => if y = q.id then q.tid else tidAt S y

theorem tidAt_ins (g : Sq) (B : List Sq) (y : Int) : ∀ A : List Sq, (∀ a ∈ A, a.id < g.id) → tidAt (A ++ g :: B) y = if y = g.id then g.tid else tidAt (A ++ B) y
  | [], _ => rfl
  | a :: A, h => by
    have ih := tidAt_ins g B y A (fun x hx => h x (by simp [hx]))
    have ha := h a (by simp)
    show (if y = a.id then a.tid else tidAt (A ++ g :: B) y) = if y = g.id then g.tid else (if y = a.id then a.tid else tidAt (A ++ B) y)
    rw [ih]
    by_cases e : y = a.id
    · rw [if_pos e, if_neg (by omega), if_pos e]
    · rw [if_neg e, if_neg e]

theorem tidAt_none {y : Int} : ∀ {S : List Sq}, (∀ a ∈ S, a.id ≠ y) → tidAt S y = 0
  | [], _ => rfl
  | a :: S, h => by
    show (if y = a.id then a.tid else tidAt S y) = 0
    rw [if_neg (fun e => h a (by simp) e.symm)]
    exact tidAt_none (fun x hx => h x (by simp [hx]))

theorem tidAt_is {q : Sq} : ∀ {S : List Sq}, (S.Pairwise fun p q => p.id < q.id) → q ∈ S → tidAt S q.id = q.tid
  | [], _, h => by cases h
  | a :: S, hp, h => by
    obtain ⟨h1, h2⟩ := List.pairwise_cons.1 hp
    show (if q.id = a.id then a.tid else tidAt S q.id) = q.tid
    rcases List.mem_cons.1 h with rfl | h
    · rw [if_pos rfl]
    · have := h1 q h
      rw [if_neg (by omega)]
      exact tidAt_is h2 h

structure Sk (w : World) (ow : List Nat) (b tb mb n : Nat) (br : Int) (made : Nat) (ticks : Int) (tv : Value) (S : List Sq) : Prop where
  head : w.heap[b]? = some (.cells #[.int .i64 br, .int .i64 (made : Int), .pointer (some ⟨tb, 0, none⟩), .map (some mb)] 78)
  tim : L.TimI w tb 6 ticks tv (S.map sa)
  map : Mp w mb n tz (fun y => .int .i64 (tidAt S y))
  ris : S.Pairwise fun p q => p.id < q.id
  ids : ∀ q ∈ S, ∃ i : Nat, 1 ≤ i ∧ i ≤ made ∧ q.id = makeZ br (i : Int)
  one : S.Pairwise fun p q => p.tid ≠ 0 → p.tid ≠ q.tid
  tids : ∀ q ∈ S, inI64 q.tid
  bro : 1 ≤ br ∧ br ≤ 8
  mad : made ≤ 1001
  few : S.length ≤ 20
  hb : b ∈ ow
  htb : tb ∈ ow
  hmb : mb ∈ ow
  htv : ∀ k, tv.ownBlock = some k → k ∈ ow

theorem Sk.turn {l : List Nat} {w w' : World} {ow : List Nat} {b tb mb n : Nat} {br : Int} {made : Nat} {ticks : Int} {tv : Value} {S : List Sq} (h : Sk w ow b tb mb n br made ticks tv S) (t : Turn l w w') (hl : ∀ k ∈ l, k ∉ ow) : Sk w' ow b tb mb n br made ticks tv S :=
  ⟨t.heap h.head (fun e => hl _ e h.hb), h.tim.turn t (fun e => hl _ e h.htb) (fun k hk e => hl _ e (h.htv k hk)), h.map.turn t (fun e => hl _ e h.hmb), h.ris, h.ids, h.one, h.tids, h.bro, h.mad, h.few, h.hb, h.htb, h.hmb, h.htv⟩

theorem Sk.tight {w : World} {ow : List Nat} {b tb mb n : Nat} {br : Int} {made : Nat} {ticks : Int} {tv : Value} {S : List Sq} (h : Sk w ow b tb mb n br made ticks tv S) : Sk w (ow.filter fun k => decide (k < w.heap.size)) b tb mb n br made ticks tv S :=
  ⟨h.head, h.tim, h.map, h.ris, h.ids, h.one, h.tids, h.bro, h.mad, h.few, List.mem_filter.2 ⟨h.hb, by simpa using lt_of_heap h.head⟩, List.mem_filter.2 ⟨h.htb, by simpa using lt_of_heap h.tim.head⟩, List.mem_filter.2 ⟨h.hmb, by simpa using h.map.lt⟩, fun k hk => List.mem_filter.2 ⟨h.htv k hk, by obtain ⟨cs, hc⟩ := row_block h.tim.row hk; simpa using lt_of_heap hc⟩⟩

theorem make_eq {br i : Int} (hb : 1 ≤ br ∧ br ≤ 8) (h1 : 1 ≤ i) (h2 : i ≤ 2000) : makeZ br i = br * 4294967296 + i := by
  unfold makeZ
  rw [if_pos ⟨by unfold brokerB; simp; omega, h1, by omega⟩]

theorem Sk.num {w : World} {ow : List Nat} {b tb mb n : Nat} {br : Int} {made : Nat} {ticks : Int} {tv : Value} {S : List Sq} (h : Sk w ow b tb mb n br made ticks tv S) {q : Sq} (hq : q ∈ S) : inI64 q.id ∧ q.id ≠ 0 ∧ q.id < br * 4294967296 + ((made : Int) + 1) := by
  obtain ⟨i, h1, h2, e⟩ := h.ids q hq
  have hb := h.bro
  have hm := h.mad
  rw [make_eq hb (by omega) (by omega)] at e
  rw [e]
  unfold inI64
  omega

/-- The timer turns: the rest of it stays. -/
theorem Sk.nb {w : World} {ow : List Nat} {b tb mb n : Nat} {br : Int} {made : Nat} {ticks : Int} {tv : Value} {S : List Sq} (h : Sk w ow b tb mb n br made ticks tv S) : b ∉ tb :: tv.ownBlock.toList := by
  intro e
  rcases List.mem_cons.1 e with e | e
  · exact ty_ne h.head h.tim.head (by decide) e
  · obtain ⟨cs, hc⟩ := row_block h.tim.row (Option.mem_toList.1 e)
    exact ty_ne hc h.head (by decide) rfl

theorem Sk.nmb {w : World} {ow : List Nat} {b tb mb n : Nat} {br : Int} {made : Nat} {ticks : Int} {tv : Value} {S : List Sq} (h : Sk w ow b tb mb n br made ticks tv S) : mb ∉ tb :: tv.ownBlock.toList := by
  intro e
  rcases List.mem_cons.1 e with e | e
  · exact h.map.ne h.tim.head e.symm
  · obtain ⟨cs, hc⟩ := row_block h.tim.row (Option.mem_toList.1 e)
    exact h.map.ne hc rfl

theorem Sk.step {w w' : World} {ow : List Nat} {b tb mb n : Nat} {br : Int} {made : Nat} {ticks ticks' : Int} {tv tv' : Value} {S S' : List Sq} (h : Sk w ow b tb mb n br made ticks tv S) (h2 : L.TimI w' tb 6 ticks' tv' (S'.map sa)) (t : Turn (tb :: tv.ownBlock.toList) w w')
    (hm : ∀ y, tidAt S' y = tidAt S y) (ris : S'.Pairwise fun p q => p.id < q.id) (ids : ∀ q ∈ S', ∃ i : Nat, 1 ≤ i ∧ i ≤ made ∧ q.id = makeZ br (i : Int)) (one : S'.Pairwise fun p q => p.tid ≠ 0 → p.tid ≠ q.tid) (tids : ∀ q ∈ S', inI64 q.tid) (few : S'.length ≤ 20) :
    Sk w' (ow ++ tv'.ownBlock.toList) b tb mb n br made ticks' tv' S' :=
  ⟨t.heap h.head h.nb, h2, by rw [show (fun y => Value.int .i64 (tidAt S' y)) = (fun y => Value.int .i64 (tidAt S y)) from funext (fun y => by rw [hm y])]; exact h.map.turn t h.nmb, ris, ids, one, tids, h.bro, h.mad, few, by simp [h.hb], by simp [h.htb], by simp [h.hmb], fun k hk => List.mem_append.2 (.inr (Option.mem_toList.2 hk))⟩

/-- The number of those that were made turns. -/
theorem Sk.more {w : World} {ow : List Nat} {b tb mb n : Nat} {br : Int} {made : Nat} {ticks : Int} {tv : Value} {S : List Sq} (h : Sk w ow b tb mb n br made ticks tv S) (hm : made ≤ 1000) : Sk (w.setCell ⟨b, 1, none⟩ (.int .i64 ((made : Int) + 1))) ow b tb mb n br (made + 1) ticks tv S := by
  have t : Turn [b] w (w.setCell ⟨b, 1, none⟩ (.int .i64 ((made : Int) + 1))) := Turn.setCell (l := [b]) w (by simp) _
  refine ⟨block_set (i := 1) h.head _, h.tim.turn t (fun e => ty_ne h.head h.tim.head (by decide) (List.mem_singleton.1 e).symm) (fun k hk e => ?_), h.map.turn t (fun e => h.map.ne h.head (List.mem_singleton.1 e).symm), h.ris, fun q hq => ?_, h.one, h.tids, h.bro, by omega, h.few, h.hb, h.htb, h.hmb, h.htv⟩
  · obtain ⟨cs, hc⟩ := row_block h.tim.row hk
    exact ty_ne hc h.head (by decide) (List.mem_singleton.1 e)
  · obtain ⟨i, h1, h2, e⟩ := h.ids q hq
    exact ⟨i, h1, by omega, e⟩

/-- The map turns. -/
theorem Sk.mapped {w w' : World} {ow : List Nat} {b tb mb n n' : Nat} {br : Int} {made : Nat} {ticks : Int} {tv : Value} {S' : List Sq} (hh : w.heap[b]? = some (.cells #[.int .i64 br, .int .i64 (made : Int), .pointer (some ⟨tb, 0, none⟩), .map (some mb)] 78)) (ht : L.TimI w tb 6 ticks tv (S'.map sa)) {f f' : Int → Value} (hm : Mp w mb n tz f) (t : Turn [mb] w w') (hm' : Mp w' mb n' tz f') (hf : ∀ y, f' y = .int .i64 (tidAt S' y))
    (ris : S'.Pairwise fun p q => p.id < q.id) (ids : ∀ q ∈ S', ∃ i : Nat, 1 ≤ i ∧ i ≤ made ∧ q.id = makeZ br (i : Int)) (one : S'.Pairwise fun p q => p.tid ≠ 0 → p.tid ≠ q.tid) (tids : ∀ q ∈ S', inI64 q.tid) (few : S'.length ≤ 20) (bro : 1 ≤ br ∧ br ≤ 8) (mad : made ≤ 1001)
    (hb : b ∈ ow) (htb : tb ∈ ow) (hmb : mb ∈ ow) (htv : ∀ k, tv.ownBlock = some k → k ∈ ow) : Sk w' ow b tb mb n' br made ticks tv S' := by
  have nb : ∀ {k : Nat} {cs : Array Value} {ty : TypeId}, w.heap[k]? = some (.cells cs ty) → k ∉ [mb] := fun hk e => hm.ne hk (List.mem_singleton.1 e)
  refine ⟨t.heap hh (nb hh), ht.turn t (nb ht.head) (fun k hk => ?_), by rw [← funext hf]; exact hm', ris, ids, one, tids, bro, mad, few, hb, htb, hmb, htv⟩
  obtain ⟨cs, hc⟩ := row_block ht.row hk
  exact nb hc

/-- Sessions. -/
def SesI (w : World) (ow : List Nat) (b : Nat) (br : Int) (made : Nat) (ticks : Int) (nm : Nat) (S : List Sq) : Prop := ∃ tb mb n tv, n ≤ nm ∧ Sk w ow b tb mb n br made ticks tv S

theorem lo_s {A R : List Sq} {x : Int} (h : ∀ q ∈ A, q.id < x) : ∀ i (hi : i < ((A ++ R).map sa).length), i < A.length → cmpZ ((A ++ R).map sa)[i].1 x < 0 := by
  intro i hi hl
  rw [List.getElem_map, List.getElem_append_left hl]
  exact cmpZ_lt (h _ (List.getElem_mem hl))

theorem hi_s {A R : List Sq} {x : Int} (h : ∀ q ∈ R, x ≤ q.id) : ∀ i (hi : i < ((A ++ R).map sa).length), A.length ≤ i → 0 ≤ cmpZ ((A ++ R).map sa)[i].1 x := by
  intro i hi hl
  rw [List.getElem_map, List.getElem_append_right hl]
  have h1 := h _ (List.getElem_mem (l := R) (n := i - A.length) (by simp at hi; omega))
  rcases Int.lt_or_eq_of_le h1 with h2 | h2
  · exact Int.le_of_lt (cmpZ_gt h2)
  · show 0 ≤ cmpZ (R[i - A.length]'(by simp at hi; omega)).id x
    rw [← h2, cmpZ_eq]
    omega

theorem not_s {A B : List Sq} {x : Int} (hB : ∀ q ∈ B, x < q.id) : ¬ (A.length < ((A ++ B).map sa).length ∧ cmpZ (((A ++ B).map sa).getD A.length (0, 0)).1 x = 0) := by
  rintro ⟨h1, h2⟩
  have hl : A.length < (A ++ B).length := by simpa using h1
  have e : ((A ++ B).map sa).getD A.length (0, 0) = sa (B[0]'(by simp at hl; omega)) := by
    simp at hl
    simp [List.getD, hl]
  rw [e] at h2
  have := cmpZ_gt (hB _ (List.getElem_mem (l := B) (n := 0) (by simp at hl; omega)))
  have e2 : (sa (B[0]'(by simp at hl; omega))).1 = (B[0]'(by simp at hl; omega)).id := rfl
  rw [e2] at h2
  omega

theorem get_s (A B : List Sq) (q : Sq) : ((A ++ q :: B).map sa).getD A.length (0, 0) = sa q := by simp [List.getD]

theorem ge_s {B : List Sq} {x : Int} (hB : ∀ q ∈ B, x < q.id) : ∀ q ∈ B, x ≤ q.id := fun q hq => Int.le_of_lt (hB q hq)

theorem ge_s2 {B : List Sq} {q0 : Sq} (hB : ∀ q ∈ B, q0.id < q.id) : ∀ q ∈ q0 :: B, q0.id ≤ q.id := by
  intro q hq
  rcases List.mem_cons.1 hq with rfl | hq
  · exact Int.le_refl _
  · exact Int.le_of_lt (hB q hq)

theorem del_s (A B : List Sq) (q : Sq) : delK ((A ++ q :: B).map sa) A.length = (A ++ B).map sa := by
  have h := drop_mid (sa q) (B.map sa) (A.map sa)
  rw [List.length_map] at h
  unfold delK
  rw [List.map_append, List.map_cons, h, List.take_left' (by simp), List.map_append]

/-- A list by rising number, and a number: those below it, those above, and it, if it is there. -/
theorem cut_s {S : List Sq} (h : S.Pairwise fun p q => p.id < q.id) {x : Int} (hx : ∀ q ∈ S, q.id ≠ x) : ∃ A B, S = A ++ B ∧ (∀ q ∈ A, q.id < x) ∧ ∀ q ∈ B, x < q.id := by
  induction S with
  | nil => exact ⟨[], [], rfl, by simp, by simp⟩
  | cons a S ih =>
    obtain ⟨h1, h2⟩ := List.pairwise_cons.1 h
    by_cases ha : a.id < x
    · obtain ⟨A, B, e, hA, hB⟩ := ih h2 (fun q hq => hx q (by simp [hq]))
      refine ⟨a :: A, B, by rw [e]; rfl, fun q hq => ?_, hB⟩
      rcases List.mem_cons.1 hq with rfl | hq
      · exact ha
      · exact hA q hq
    · refine ⟨[], a :: S, rfl, by simp, fun q hq => ?_⟩
      have h3 := hx a (by simp)
      rcases List.mem_cons.1 hq with rfl | hq
      · omega
      · have := h1 q hq
        omega

/-- Is x there? -/
theorem tim_has {w : World} {tb : Nat} {ticks : Int} {tv : Value} {S : List Sq} {x : Int} (h : L.TimI w tb 6 ticks tv (S.map sa)) (hs : S.Pairwise fun p q => p.id < q.id) (hx : ∀ q ∈ S, q.id ≠ x) :
    Calls Tryz.prog 41 #[.pointer (some ⟨tb, 0, none⟩), .int .i64 x] w fun e w' => e = .returned (.bool false) ∧ Turn [] w w' := by
  obtain ⟨A, B, rfl, hA, hB⟩ := cut_s hs hx
  have C := L.has_calls h x (m := A.length) (by simp) (lo_s hA) (hi_s (ge_s hB))
  have e : (decide (A.length < ((A ++ B).map sa).length) && (cmpZ (((A ++ B).map sa).getD A.length (0, 0)).1 x == 0)) = false := by
    have := not_s (A := A) hB
    rw [Bool.and_eq_false_iff]
    by_cases h1 : A.length < ((A ++ B).map sa).length
    · right
      simpa using fun h2 => this ⟨h1, h2⟩
    · left
      simpa using h1
  rw [e] at C
  exact C

theorem tim_has_is {w : World} {tb : Nat} {ticks : Int} {tv : Value} {A B : List Sq} {q : Sq} (h : L.TimI w tb 6 ticks tv ((A ++ q :: B).map sa)) (hA : ∀ a ∈ A, a.id < q.id) (hB : ∀ c ∈ B, q.id < c.id) :
    Calls Tryz.prog 41 #[.pointer (some ⟨tb, 0, none⟩), .int .i64 q.id] w fun e w' => e = .returned (.bool true) ∧ Turn [] w w' := by
  have C := L.has_calls h q.id (m := A.length) (by simp) (lo_s hA) (hi_s (ge_s2 hB))
  rw [get_s] at C
  rw [show (decide (A.length < ((A ++ q :: B).map sa).length) && (cmpZ (sa q).1 q.id == 0)) = true by rw [show cmpZ (sa q).1 q.id = 0 from cmpZ_eq _]; simp] at C
  exact C

/-- The timer hears of a session. -/
theorem tim_heard {w : World} {tb : Nat} {ticks : Int} {tv : Value} {A B : List Sq} {q : Sq} (h : L.TimI w tb 6 ticks tv ((A ++ q :: B).map sa)) (hA : ∀ a ∈ A, a.id < q.id) (hB : ∀ c ∈ B, q.id < c.id) :
    Calls Tryz.prog 42 #[.pointer (some ⟨tb, 0, none⟩), .int .i64 q.id] w fun e w4 => e = .returned (.bool false) ∧ (∀ t, L.TimI w4 tb 6 ticks tv ((A ++ ⟨q.id, t, ticks⟩ :: B).map sa)) ∧ Turn (tb :: tv.ownBlock.toList) w w4 := by
  refine (L.heard_is h q.id (m := A.length) (by simp) (lo_s hA) (hi_s (ge_s2 hB)) (by rw [get_s]; exact cmpZ_eq _)).mono ?_
  rintro e w4 ⟨rfl, h2, t⟩
  refine ⟨rfl, fun z => ?_, t⟩
  rw [get_s] at h2
  have e : ((A ++ q :: B).map sa).set A.length ((sa q).1, ticks) = (A ++ ⟨q.id, z, ticks⟩ :: B).map sa := by simp [sa]
  rw [← e]
  exact h2

/-- The timer hears of a new one, above all. -/
theorem tim_new {w : World} {tb : Nat} {ticks : Int} {tv : Value} {S : List Sq} {x : Int} (h : L.TimI w tb 6 ticks tv (S.map sa)) (hs : S.length ≤ 20) (hS : ∀ a ∈ S, a.id < x) (t : Int) :
    Calls Tryz.prog 42 #[.pointer (some ⟨tb, 0, none⟩), .int .i64 x] w fun e w4 => ∃ tv', e = .returned (.bool true) ∧ L.TimI w4 tb 6 ticks tv' ((S ++ [(⟨x, t, ticks⟩ : Sq)]).map sa) ∧ (tv'.ownBlock = tv.ownBlock ∨ ∀ k, tv'.ownBlock = some k → w.heap.size ≤ k) ∧ Turn (tb :: tv.ownBlock.toList) w w4 := by
  have e0 : S = S ++ [] := by simp
  rw [e0] at h
  refine (L.heard_new h x (by simp; omega) (m := S.length) (by simp) (lo_s hS) (hi_s (by simp)) (not_s (by simp))).mono ?_
  rintro e w4 ⟨v', rfl, h2, ho, t2⟩
  refine ⟨v', rfl, ?_, ho, t2⟩
  have e : insK ((S ++ []).map sa) S.length (x, ticks) = (S ++ [(⟨x, t, ticks⟩ : Sq)]).map sa := by
    rw [List.append_nil]
    unfold insK
    rw [List.take_of_length_le (by simp), List.drop_eq_nil_of_le (by simp)]
    simp [sa]
  rw [← e]
  exact h2

theorem pair_set {R : Sq → Sq → Prop} {A B : List Sq} {q q' : Sq} (h : (A ++ q :: B).Pairwise R) (hA : ∀ a ∈ A, R a q → R a q') (hB : ∀ c ∈ B, R q c → R q' c) : (A ++ q' :: B).Pairwise R := by
  obtain ⟨h1, h2, h3⟩ := pair_mid h
  exact pair_ins h1 (fun a ha => hA a ha (h2 a ha)) (fun c hc => hB c hc (h3 c hc))

theorem all_set {P : Sq → Prop} {A B : List Sq} {q q' : Sq} (h : ∀ a ∈ A ++ q :: B, P a) (hq : P q → P q') : ∀ a ∈ A ++ q' :: B, P a := by
  intro a ha
  rcases mem_mid' ha with rfl | ha
  · exact hq (h q (by simp))
  · exact h a (mem_mid ha)

/-- The timer has heard of a session. -/
theorem Sk.touched {w w' : World} {ow : List Nat} {b tb mb n : Nat} {br : Int} {made : Nat} {ticks : Int} {tv : Value} {A B : List Sq} {q : Sq} (h : Sk w ow b tb mb n br made ticks tv (A ++ q :: B)) (h2 : ∀ t, L.TimI w' tb 6 ticks tv ((A ++ ⟨q.id, t, ticks⟩ :: B).map sa)) (t : Turn (tb :: tv.ownBlock.toList) w w') :
    Sk w' (ow ++ tv.ownBlock.toList) b tb mb n br made ticks tv (A ++ ⟨q.id, q.tid, ticks⟩ :: B) := by
  obtain ⟨-, hA, hB⟩ := pair_mid h.ris
  exact h.step (h2 q.tid) t (fun y => by rw [tidAt_ins ⟨q.id, q.tid, ticks⟩ B y A hA, tidAt_ins q B y A hA]) (pair_set h.ris (fun _ _ e => e) (fun _ _ e => e)) (all_set h.ids (fun e => e)) (pair_set h.one (fun _ _ e => e) (fun _ _ e => e)) (all_set h.tids (fun e => e)) (by have := h.few; simp at this ⊢; omega)

/-- .. and it is bound. -/
theorem Sk.bound {w w1 w' : World} {ow : List Nat} {b tb mb n n' : Nat} {br : Int} {made : Nat} {ticks : Int} {tv : Value} {A B : List Sq} {q : Sq} (h : Sk w ow b tb mb n br made ticks tv (A ++ q :: B)) (h2 : ∀ t, L.TimI w1 tb 6 ticks tv ((A ++ ⟨q.id, t, ticks⟩ :: B).map sa)) (t1 : Turn (tb :: tv.ownBlock.toList) w w1) (t2 : Turn [mb] w1 w')
    {t : Int} (ht : inI64 t) (hfree : t = 0 ∨ ∀ r ∈ A ++ B, r.tid ≠ t) (hm : Mp w' mb n' tz (fun y => if y = q.id then .int .i64 t else .int .i64 (tidAt (A ++ q :: B) y))) : Sk w' ow b tb mb n' br made ticks tv (A ++ ⟨q.id, t, ticks⟩ :: B) := by
  obtain ⟨-, hA, hB⟩ := pair_mid h.ris
  obtain ⟨o1, o2, o3⟩ := pair_mid h.one
  refine Sk.mapped (t1.heap h.head h.nb) (h2 t) (h.map.turn t1 h.nmb) t2 hm (fun y => ?_) (pair_set h.ris (fun _ _ e => e) (fun _ _ e => e)) (all_set h.ids (fun e => e)) (pair_ins o1 (fun a ha h0 => ?_) (fun c hc h0 => ?_)) (all_set h.tids (fun _ => ht)) (by have := h.few; simp at this ⊢; omega) h.bro h.mad h.hb h.htb h.hmb h.htv
  · rw [tidAt_ins ⟨q.id, t, ticks⟩ B y A hA, tidAt_ins q B y A hA]
    by_cases e : y = q.id
    · rw [if_pos e, if_pos e]
    · rw [if_neg e, if_neg e, if_neg e]
  · rcases hfree with rfl | hf
    · exact h0
    · exact hf a (by simp [ha])
  · rcases hfree with rfl | hf
    · exact absurd rfl h0
    · exact fun e => hf c (by simp [hc]) e.symm

/-- The timer has let a session go, and so has the map. -/
theorem Sk.closed {w w1 w' : World} {ow : List Nat} {b tb mb n n' : Nat} {br : Int} {made : Nat} {ticks : Int} {tv tv' : Value} {A B : List Sq} {q : Sq} (h : Sk w ow b tb mb n br made ticks tv (A ++ q :: B)) (h2 : L.TimI w1 tb 6 ticks tv' ((A ++ B).map sa)) (t1 : Turn (tb :: tv.ownBlock.toList) w w1) (ho : tv'.ownBlock = tv.ownBlock) (t2 : Turn [mb] w1 w')
    (hm : Mp w' mb n' tz (fun y => if y = q.id then tz else .int .i64 (tidAt (A ++ q :: B) y))) : Sk w' ow b tb mb n' br made ticks tv' (A ++ B) := by
  obtain ⟨hR, hA, hB⟩ := pair_mid h.ris
  obtain ⟨o1, o2, o3⟩ := pair_mid h.one
  refine Sk.mapped (t1.heap h.head h.nb) h2 (h.map.turn t1 h.nmb) t2 hm (fun y => ?_) hR (fun a ha => h.ids a (mem_mid ha)) o1 (fun a ha => h.tids a (mem_mid ha)) (by have := h.few; simp at this ⊢; omega) h.bro h.mad h.hb h.htb h.hmb (by rw [ho]; exact h.htv)
  by_cases e : y = q.id
  · rw [if_pos e, tidAt_none]
    · rfl
    · intro a ha e2
      rcases List.mem_append.1 ha with h1 | h1
      · have := hA a h1; omega
      · have := hB a h1; omega
  · rw [if_neg e, tidAt_ins q B y A hA, if_neg e]

/-- A new one. -/
theorem Sk.opened {w w1 : World} {ow : List Nat} {b tb mb n : Nat} {br : Int} {made : Nat} {ticks : Int} {tv tv' : Value} {S : List Sq} (h : Sk w ow b tb mb n br made ticks tv S) (hl : S.length < 20) (h1 : 1 ≤ made) (hnew : ∀ a ∈ S, a.id < makeZ br (made : Int)) (h2 : L.TimI w1 tb 6 ticks tv' ((S ++ [(⟨makeZ br (made : Int), 0, ticks⟩ : Sq)]).map sa)) (t1 : Turn (tb :: tv.ownBlock.toList) w w1) :
    Sk w1 (ow ++ tv'.ownBlock.toList) b tb mb n br made ticks tv' (S ++ [(⟨makeZ br (made : Int), 0, ticks⟩ : Sq)]) := by
  refine h.step h2 t1 (fun y => ?_) (pair_ins (by rw [List.append_nil]; exact h.ris) hnew (by simp)) (fun q hq => ?_) (pair_ins (by rw [List.append_nil]; exact h.one) (fun a _ h0 => h0) (by simp)) (fun q hq => ?_) (by simp; omega)
  · rw [tidAt_ins ⟨makeZ br (made : Int), 0, ticks⟩ [] y S hnew, List.append_nil]
    split
    · next e =>
      exact (tidAt_none (fun a ha => by have := hnew a ha; show a.id ≠ y; rw [e]; show a.id ≠ makeZ br (made : Int); omega)).symm
    · rfl
  · rcases List.mem_append.1 hq with hq | hq
    · exact h.ids q hq
    · rw [List.mem_singleton.1 hq]
      exact ⟨made, h1, Nat.le_refl _, rfl⟩
  · rcases List.mem_append.1 hq with hq | hq
    · exact h.tids q hq
    · rw [List.mem_singleton.1 hq]
      show inI64 0
      unfold inI64
      omega

/-- Whose t is. -/
def ofZ (t : Int) : List Sq → Int
  | [] => 0
  | q :: S => if q.tid = t then q.id else ofZ t S

theorem ofZ_none {t : Int} : ∀ {S : List Sq}, (∀ q ∈ S, q.tid ≠ t) → ofZ t S = 0
  | [], _ => rfl
  | a :: S, h => by
    show (if a.tid = t then a.id else ofZ t S) = 0
    rw [if_neg (h a (by simp))]
    exact ofZ_none (fun q hq => h q (by simp [hq]))

theorem ofZ_is {q : Sq} : ∀ {S : List Sq}, (S.Pairwise fun p q => p.tid ≠ 0 → p.tid ≠ q.tid) → q ∈ S → q.tid ≠ 0 → ofZ q.tid S = q.id
  | [], _, h, _ => by cases h
  | a :: S, hp, h, h0 => by
    obtain ⟨h1, h2⟩ := List.pairwise_cons.1 hp
    show (if a.tid = q.tid then a.id else ofZ q.tid S) = q.id
    rcases List.mem_cons.1 h with rfl | h
    · rw [if_pos rfl]
    · rw [if_neg (fun e => h1 q h (by rw [e]; exact h0) e)]
      exact ofZ_is h2 h h0

theorem ofZ_mem {t : Int} : ∀ {S : List Sq}, ofZ t S = 0 ∨ ∃ q ∈ S, q.tid = t ∧ ofZ t S = q.id
  | [] => .inl rfl
  | a :: S => by
    by_cases h : a.tid = t
    · exact .inr ⟨a, by simp, h, by show (if a.tid = t then a.id else ofZ t S) = a.id; rw [if_pos h]⟩
    · have e : ofZ t (a :: S) = ofZ t S := by show (if a.tid = t then a.id else ofZ t S) = ofZ t S; rw [if_neg h]
      rw [e]
      rcases ofZ_mem (t := t) (S := S) with h1 | ⟨q, h1, h2⟩
      · exact .inl h1
      · exact .inr ⟨q, by simp [h1], h2⟩

theorem ofZ_drop {t : Int} {S : List Sq} {k : Nat} (h : k < S.length) : ofZ t (S.drop k) = if S[k].tid = t then S[k].id else ofZ t (S.drop (k + 1)) := by
  rw [List.drop_eq_getElem_cons h]
  rfl

end Go.Proofs.YtjmainefmiefcaaGreat.Ss


/-
  Sessions' own calls: heard, next, Tid, Touch, Close, Tick, Open.
-/
namespace Go.Proofs.YtjmainefmiefcaaGreat.Ss
open Go.RowKit

set_option maxRecDepth 100000 in
theorem heard_calls {w : World} {b tb mb : Nat} {br : Int} {md : Int} (h : w.heap[b]? = some (.cells #[.int .i64 br, .int .i64 md, .pointer (some ⟨tb, 0, none⟩), .map (some mb)] 78)) :
    Calls Tryz.prog 49 #[.pointer (some ⟨b, 0, none⟩)] w fun e w' => e = .returned (.pointer (some ⟨tb, 0, none⟩)) ∧ w' = w := by
  have c0 : w.cell? ⟨b, 2, none⟩ = some (.pointer (some ⟨tb, 0, none⟩)) := by rw [cell_of_row _ _ _ _ _ _ h]; rfl
  clear h
  go_enter Tryz.func49, Tryz.ntmps49
  go_wp2
  go_ret
  exact ⟨rfl, rfl⟩

theorem heard_nil (w : World) : Calls Tryz.prog 49 #[.pointer none] w fun e w' => e = .returned (.pointer none) ∧ w' = w := by
  go_enter Tryz.func49, Tryz.ntmps49
  go_wp2
  go_ret
  exact ⟨rfl, rfl⟩

set_option maxHeartbeats 2000000 in
set_option maxRecDepth 100000 in
theorem next_calls {w : World} {b tb mb made : Nat} {br : Int} (h : w.heap[b]? = some (.cells #[.int .i64 br, .int .i64 (made : Int), .pointer (some ⟨tb, 0, none⟩), .map (some mb)] 78)) (hm : made ≤ 1001) :
    Calls Tryz.prog 50 #[.pointer (some ⟨b, 0, none⟩)] w fun e w' => e = .returned (.int .i64 (makeZ br ((made : Int) + 1))) ∧ Turn [] w w' := by
  have c0 : w.cell? ⟨b, 0, none⟩ = some (.int .i64 br) := by rw [cell_of_row _ _ _ _ _ _ h]; rfl
  have c1 : w.cell? ⟨b, 1, none⟩ = some (.int .i64 (made : Int)) := by rw [cell_of_row _ _ _ _ _ _ h]; rfl
  obtain ⟨md, hmd⟩ : ∃ md : Int, md = (made : Int) := ⟨_, rfl⟩
  have hw : IntKind.i64.wrap (md + 1) = md + 1 := by rw [IntKind.wrap_i64]; omega
  have K := Lib.hid (fun (wx : World) => kindMake_calls br (md + 1) wx)
  have T0 := Lib.hid (fun n => Turn.drewN [] w n)
  rw [← hmd] at c1 ⊢
  generalize makeZ br (md + 1) = z at *
  clear h hm hmd
  go_enter Tryz.func50, Tryz.ntmps50
  go_wp2_with fail
  go_quiet ((go_at_call 57; exact (K.out _).mono fun _ _ h => ⟨h.1, _, h.2.symm⟩))
  go_wp2
  go_ret
  exact ⟨rfl, T0.out _⟩

theorem next_nil (w : World) : Calls Tryz.prog 50 #[.pointer none] w fun e w' => e = .returned (.int .i64 0) ∧ w' = w := by
  go_enter Tryz.func50, Tryz.ntmps50
  go_wp2
  go_ret
  exact ⟨rfl, rfl⟩

theorem zero_tid (w : World) : (zeroValue 2).run Tryz.prog w = .ok tz w := by kernel_rfl

set_option maxHeartbeats 2000000 in
set_option maxRecDepth 100000 in
theorem tid_calls {w : World} {ow : List Nat} {b tb mb n : Nat} {br : Int} {made : Nat} {ticks : Int} {tv : Value} {S : List Sq} (h : Sk w ow b tb mb n br made ticks tv S) {x : Int} (hx : inI64 x) :
    Calls Tryz.prog 33 #[.pointer (some ⟨b, 0, none⟩), .int .i64 x] w fun e w' => e = .returned (.int .i64 (tidAt S x)) ∧ w' = w := by
  have c3 : w.cell? ⟨b, 3, none⟩ = some (.map (some mb)) := by rw [cell_of_row _ _ _ _ _ _ h.head]; rfl
  have lk := h.map.look Tryz.underlying76 (zero_tid _) hx
  generalize tidAt S x = t at *
  clear h hx
  go_enter Tryz.func33, Tryz.ntmps33
  go_wp2
  go_ret
  exact ⟨rfl, rfl⟩

theorem tid_nil (x : Int) (w : World) : Calls Tryz.prog 33 #[.pointer none, .int .i64 x] w fun e w' => e = .returned (.int .i64 0) ∧ w' = w := by
  go_enter Tryz.func33, Tryz.ntmps33
  go_wp2
  go_ret
  exact ⟨rfl, rfl⟩

set_option maxHeartbeats 2000000 in
set_option maxRecDepth 100000 in
/-- Touch of nobody. -/
theorem touch_none {w : World} {ow : List Nat} {b tb mb n : Nat} {br : Int} {made : Nat} {ticks : Int} {tv : Value} {S : List Sq} (h : Sk w ow b tb mb n br made ticks tv S) {x : Int} (hx : ∀ q ∈ S, q.id ≠ x) :
    Calls Tryz.prog 29 #[.pointer (some ⟨b, 0, none⟩), .int .i64 x] w fun e w' => e = .returned (.bool false) ∧ Turn [] w w' := by
  have C := Lib.hid (tim_has h.tim h.ris hx)
  have H := Lib.hid h.head
  clear h hx
  go_enter Tryz.func29, Tryz.ntmps29
  go_wp2_with fail
  refine (heard_calls H.out).mono ?_
  rintro e w1 ⟨rfl, rfl⟩
  go_wp2_with fail
  refine C.out.mono ?_
  rintro e w1 ⟨rfl, t1⟩
  have T := Lib.hid t1
  clear t1 C
  go_wp2
  go_ret
  exact ⟨rfl, T.out⟩

set_option maxHeartbeats 2000000 in
set_option maxRecDepth 100000 in
/-- Touch of one: the timer has heard of it; whatever its transaction is to be. -/
theorem touch_raw {w : World} {ow : List Nat} {b tb mb n : Nat} {br : Int} {made : Nat} {ticks : Int} {tv : Value} {A B : List Sq} {q : Sq} (h : Sk w ow b tb mb n br made ticks tv (A ++ q :: B)) :
    Calls Tryz.prog 29 #[.pointer (some ⟨b, 0, none⟩), .int .i64 q.id] w fun e w' => e = .returned (.bool true) ∧ (∀ t, L.TimI w' tb 6 ticks tv ((A ++ ⟨q.id, t, ticks⟩ :: B).map sa)) ∧ Turn (tb :: tv.ownBlock.toList) w w' := by
  obtain ⟨-, hA, hB⟩ := pair_mid h.ris
  have C := Lib.hid (tim_has_is h.tim hA hB)
  have C2 := Lib.hid (fun w3 (t : Turn [] w w3) => tim_heard (h.turn t (by simp)).tim hA hB)
  have H := Lib.hid h.head
  clear h hA hB
  go_enter Tryz.func29, Tryz.ntmps29
  go_wp2_with fail
  refine (heard_calls H.out).mono ?_
  rintro e w1 ⟨rfl, rfl⟩
  go_wp2_with fail
  refine C.out.mono ?_
  rintro e w1 ⟨rfl, t1⟩
  have T := Lib.hid t1
  clear t1 C
  go_wp2_with fail
  refine (heard_calls (T.out.heap H.out (by simp))).mono ?_
  rintro e w2 ⟨rfl, rfl⟩
  go_wp2_with fail
  refine (C2.out _ T.out).mono ?_
  rintro e w4 ⟨rfl, h5, t5⟩
  have F := Lib.hid h5
  have T5 := Lib.hid ((T.out.mono (by simp)).trans t5 (fun i hi => .inl hi))
  clear h5 t5
  go_wp2
  go_ret
  exact ⟨rfl, F.out, T5.out⟩

set_option maxHeartbeats 4000000 in
set_option maxRecDepth 100000 in
/-- Close of nobody. -/
theorem close_none {w : World} {ow : List Nat} {b tb mb n : Nat} {br : Int} {made : Nat} {ticks : Int} {tv : Value} {S : List Sq} (h : Sk w ow b tb mb n br made ticks tv S) {x : Int} (hi : inI64 x) (hx : ∀ q ∈ S, q.id ≠ x) :
    Calls Tryz.prog 31 #[.pointer (some ⟨b, 0, none⟩), .int .i64 x] w fun e w' => e = .returned (.tuple #[.int .i64 0, .bool false]) ∧ Turn [] w w' := by
  have D := Lib.hid (tid_calls h hi)
  obtain ⟨A, B, hS, hA, hB⟩ := cut_s h.ris hx
  have ht := h.tim
  rw [hS] at ht
  have C := Lib.hid (L.gone_none ht x (m := A.length) (by simp) (lo_s hA) (hi_s (ge_s hB)) (not_s hB))
  have H := Lib.hid h.head
  generalize tidAt S x = t at *
  clear h hx hS hA hB hi ht
  go_enter Tryz.func31, Tryz.ntmps31
  go_wp2_with fail
  refine D.out.mono ?_
  rintro e w1 ⟨rfl, rfl⟩
  go_wp2_with fail
  refine (heard_calls H.out).mono ?_
  rintro e w2 ⟨rfl, rfl⟩
  go_wp2_with fail
  refine C.out.mono ?_
  rintro e w3 ⟨rfl, t1⟩
  have T := Lib.hid t1
  clear t1 C D
  go_wp2
  go_ret2
  exact ⟨rfl, T.out⟩

set_option maxHeartbeats 4000000 in
set_option maxRecDepth 100000 in
/-- Close of one. -/
theorem close_is {w : World} {ow : List Nat} {b tb mb n : Nat} {br : Int} {made : Nat} {ticks : Int} {tv : Value} {A B : List Sq} {q : Sq} (h : Sk w ow b tb mb n br made ticks tv (A ++ q :: B)) :
    Calls Tryz.prog 31 #[.pointer (some ⟨b, 0, none⟩), .int .i64 q.id] w fun e w' => ∃ tv', e = .returned (.tuple #[.int .i64 q.tid, .bool true]) ∧ Sk w' ow b tb mb n br made ticks tv' (A ++ B) ∧ Stp ow ow w w' := by
  obtain ⟨-, hA, hB⟩ := pair_mid h.ris
  have hx := (h.num (q := q) (by simp)).1
  have hD := tid_calls h hx
  rw [tidAt_is h.ris (by simp)] at hD
  have D := Lib.hid hD
  have hC := L.gone_is h.tim q.id (m := A.length) (by simp) (lo_s hA) (hi_s (ge_s2 hB)) (by rw [get_s]; exact cmpZ_eq _)
  rw [del_s] at hC
  have C := Lib.hid hC
  have H := Lib.hid h
  obtain ⟨x, hxe⟩ : ∃ x, x = q.id := ⟨_, rfl⟩
  have HX := Lib.hid hxe
  rw [← hxe] at C D hx ⊢
  obtain ⟨z, hz⟩ : ∃ z, z = q.tid := ⟨_, rfl⟩
  rw [← hz] at D ⊢
  clear h hA hB hD hC hxe hz
  go_enter Tryz.func31, Tryz.ntmps31
  go_wp2_with fail
  refine D.out.mono ?_
  rintro e w1 ⟨rfl, rfl⟩
  go_wp2_with fail
  refine (heard_calls H.out.head).mono ?_
  rintro e w2 ⟨rfl, rfl⟩
  go_wp2_with fail
  refine C.out.mono ?_
  rintro e w3 ⟨tv', rfl, h5, o5, t5⟩
  have F5 := Lib.hid h5
  have T5 := Lib.hid t5
  have O5 := Lib.hid o5
  have c3 : w3.cell? ⟨b, 3, none⟩ = some (.map (some mb)) := by rw [cell_of_row _ _ _ _ _ _ (t5.heap H.out.head H.out.nb)]; rfl
  have PM := Lib.hid (H.out.map.turn t5 H.out.nmb)
  clear h5 o5 t5 C D
  go_wp2_with (at_delete; refine mp_delete rfl (.tmp 18) (.tmp 19) 76 _ rfl Tryz.underlying76 mb n tz _ rfl PM.out x rfl hx ?_; intro w4 h4 t4; have M4 := Lib.hid h4; have T4 := Lib.hid t4; clear h4 t4)
  have M5 := M4.out
  rw [HX.out] at M5
  have F := Lib.hid (H.out.closed F5.out T5.out O5.out T4.out M5)
  clear M5
  go_ret2
  exact ⟨_, rfl, F.out, ⟨fun k hk => .inl hk, fun k hk => hk, (T5.out.mono (fun i hi => .inl (by
    rcases List.mem_cons.1 hi with rfl | hi
    · exact H.out.htb
    · exact H.out.htv i (Option.mem_toList.1 hi)))).trans T4.out (fun i hi => .inl (by rw [List.mem_singleton.1 hi]; exact H.out.hmb))⟩⟩

set_option maxHeartbeats 2000000 in
set_option maxRecDepth 100000 in
/-- Tick: who was silent for six ticks or more, in a row of its own. -/
theorem tick_calls {w : World} {ow : List Nat} {b tb mb n : Nat} {br : Int} {made : Nat} {ticks : Int} {tv : Value} {S : List Sq} (h : Sk w ow b tb mb n br made ticks tv S) (hti : ticks ≤ 999999) :
    Calls Tryz.prog 32 #[.pointer (some ⟨b, 0, none⟩)] w fun e w' => ∃ sv, e = .returned sv ∧ w'.ownsRow 0 2 1 sv (L.silK 6 (ticks + 1) (S.map sa)).length (L.silK 6 (ticks + 1) (S.map sa)) ∧ Sk w' (ow ++ tv.ownBlock.toList) b tb mb n br made (ticks + 1) tv S ∧ Stp ow (ow ++ tv.ownBlock.toList) w w' := by
  have C := Lib.hid (L.tick_calls h.tim hti)
  have H := Lib.hid h
  clear h
  go_enter Tryz.func32, Tryz.ntmps32
  go_wp2_with fail
  refine (heard_calls H.out.head).mono ?_
  rintro e w1 ⟨rfl, rfl⟩
  go_wp2_with fail
  refine C.out.mono ?_
  rintro e w2 ⟨sv, rfl, hr, ho, h5, t5⟩
  have R := Lib.hid hr
  have F := Lib.hid (H.out.step h5 (t5.mono (fun i hi => .inl (by simp at hi; simp [hi]))) (fun _ => rfl) H.out.ris H.out.ids H.out.one H.out.tids H.out.few)
  have ST := Lib.hid (Stp.of (ow := ow) (v' := tv) t5 (fun k hk => by rw [List.mem_singleton.1 hk]; exact H.out.htb) (fun k hk => .inl (H.out.htv k hk)))
  obtain ⟨ao, c, hs⟩ := owns_slice hr
  have HS := Lib.hid hs
  clear h5 t5 C hr ho hs
  rw [HS.out]
  go_wp2
  go_ret
  exact ⟨_, rfl, by rw [← HS.out]; exact R.out, F.out, ST.out⟩

end Go.Proofs.YtjmainefmiefcaaGreat.Ss
