/-
  What opens the arguments of the laws of kind and rec: records, packets.
-/
import Derived.Test.YtanjbbmgpodbgaaChecked
import Derived.Test.YtanjbbmgpodbgaaKrec
import Derived.ProofKit
import Derived.OpenShut
import Derived.Deep.Slices
import Derived.Deep.Grids
import Derived.Deep.Strs
import Derived.WideShapes
namespace Go.Proofs.Ytanjbbmgpodbgaa
open Go.RowKit Go.ChangeShapes Go.WideShapes Go.ChangeAt Go.Deep

theorem exists_list {α : Type} (d : α) (P : Nat → α → Prop) : ∀ n, (∀ i, i < n → ∃ x, P i x) → ∃ l : List α, l.length = n ∧ ∀ i, i < n → P i (l.getD i d)
  | 0, _ => ⟨[], rfl, fun i hi => by omega⟩
  | n + 1, h => by
    obtain ⟨l, hl, hp⟩ := exists_list d P n (fun i hi => h i (by omega))
    obtain ⟨x, hx⟩ := h n (by omega)
    refine ⟨l ++ [x], by simp [hl], fun i hi => ?_⟩
    by_cases e : i < n
    · have : (l ++ [x]).getD i d = l.getD i d := by simp [List.getD, List.getElem?_append, hl, e]
      rw [this]
      exact hp i e
    · obtain rfl : i = n := by omega
      have : (l ++ [x]).getD i d = x := by simp [List.getD, ← hl]
      rw [this]
      exact hx

theorem array6 {α : Type} {cs : Array α} (h : cs.size = 6) : ∃ c0 c1 c2 c3 c4 c5, cs = #[c0, c1, c2, c3, c4, c5] := by
  obtain ⟨l⟩ := cs
  match l, h with
  | [c0, c1, c2, c3, c4, c5], _ => exact ⟨c0, c1, c2, c3, c4, c5, rfl⟩

section
variable {H : Type} {enc : TypeId × Value → H} {P : Program} {w : World} {base : Nat} {spare : Nat → Bool} {held : Bool}

theorem trod_struct6 {t : TypeId} {f0 f1 f2 f3 f4 f5 : Field} {fuel : Nat} {cs : List Value} {x : DataW H × List MemPlace} (ht : P.underlying t = some (.struct #[f0, f1, f2, f3, f4, f5])) (h : DataW.trod enc P w base spare held fuel t cs = some x) :
    ∃ y0 y1 y2 y3 y4 y5 n, cs.length = P.cellsOf t ∧ DataW.trod enc P w base spare held n f0.type ((cs.drop f0.offset).take (P.cellsOf f0.type)) = some y0 ∧
      DataW.trod enc P w base spare held n f1.type ((cs.drop f1.offset).take (P.cellsOf f1.type)) = some y1 ∧ DataW.trod enc P w base spare held n f2.type ((cs.drop f2.offset).take (P.cellsOf f2.type)) = some y2 ∧
      DataW.trod enc P w base spare held n f3.type ((cs.drop f3.offset).take (P.cellsOf f3.type)) = some y3 ∧ DataW.trod enc P w base spare held n f4.type ((cs.drop f4.offset).take (P.cellsOf f4.type)) = some y4 ∧
      DataW.trod enc P w base spare held n f5.type ((cs.drop f5.offset).take (P.cellsOf f5.type)) = some y5 := by
  obtain ⟨xs, n, _, rfl, hl, hlen, hf⟩ := DataW.trod_struct ht h
  match xs, hlen with
  | [y0, y1, y2, y3, y4, y5], _ => exact ⟨y0, y1, y2, y3, y4, y5, n, hl, by simpa using hf 0 f0 rfl, by simpa using hf 1 f1 rfl, by simpa using hf 2 f2 rfl, by simpa using hf 3 f3 rfl, by simpa using hf 4 f4 rfl, by simpa using hf 5 f5 rfl⟩
end

theorem cells1I : Try.prog.cellsOf 3 = 1 := by kernel_rfl
theorem cells1L : Try.prog.cellsOf 2 = 1 := by kernel_rfl
theorem cells1B : Try.prog.cellsOf 4 = 1 := by kernel_rfl
theorem cells1S : Try.prog.cellsOf 9 = 1 := by kernel_rfl
theorem cells1P : Try.prog.cellsOf 35 = 1 := by kernel_rfl
theorem cells1Q : Try.prog.cellsOf 36 = 1 := by kernel_rfl
theorem cells2Put : Try.prog.cellsOf 29 = 2 := by kernel_rfl
theorem cells6R : Try.prog.cellsOf 38 = 6 := by kernel_rfl
theorem cells6K : Try.prog.cellsOf 40 = 6 := by kernel_rfl

theorem field_ints {H : Type} {enc : TypeId × Value → H} {W : World} {v : Value} {fuel : Nat} {y : DataW H × List MemPlace}
    (hf : DataW.trod enc Try.prog W 0 (fun _ => true) true fuel 35 [v] = some y) : ∃ a c l, v = .slice a l.length c ∧ Il W a c l := by
  rcases open_ints Try.underlying35 Try.underlying3 (by kernel_rfl) hf with ⟨hcs, _⟩ | ⟨x, l, c, zs, hcs, _, hl, hm, hz, _, hcell, hwz⟩
  · simp at hcs
    exact ⟨none, 0, [], by rw [hcs]; rfl, .inl ⟨rfl, rfl, rfl⟩⟩
  · simp at hcs
    simp only [if_true] at hz
    have hln : (zs.take l).length = l := by simp; omega
    refine ⟨some x, c, zs.take l, by rw [hcs, hln], .inr ⟨x, rfl, by omega, hm, fun i hi => ?_, fun n hn => bounds_i64 (hwz n (List.mem_of_mem_take hn))⟩⟩
    have hi2 : i < l := by omega
    rw [hcell i (by omega)]
    simp [List.getD, hi2]

set_option maxRecDepth 100000 in
theorem field_puts {H : Type} {enc : TypeId × Value → H} {W : World} {v : Value} {fuel : Nat} {y : DataW H × List MemPlace}
    (hf : DataW.trod enc Try.prog W 0 (fun _ => true) true fuel 36 [v] = some y) : ∃ a c l, v = .slice a l.length c ∧ Ps W a c l := by
  rcases open_slice Try.underlying36 hf with ⟨hcs, _⟩ | ⟨x, len, c, m, n, D, Pl, hcs, _, hl, hm, hmm, _, hel⟩
  · simp at hcs
    exact ⟨none, 0, [], by rw [hcs]; rfl, .inl ⟨rfl, rfl, rfl⟩⟩
  · simp at hcs
    simp only [if_true] at hmm
    rw [cells2Put] at hel
    obtain ⟨ps, hol, hop⟩ := exists_list putNone (fun i (p : ByteArray × ByteArray) => W.cell? (x.add (i * 2)) = some (.string p.1) ∧ W.cell? ((x.add (i * 2)).add 1) = some (.string p.2) ∧ p.1.size ≤ 9223372036854775807 ∧ p.2.size ≤ 9223372036854775807) len (by
      intro i hi
      obtain ⟨cs, hc, ht⟩ := hel i (by omega)
      obtain ⟨y0, y1, k, _, hlen, t0, t1⟩ := trod_struct2 Try.underlying29 ht
      rw [cells2Put] at hlen
      obtain ⟨_, _, hat⟩ := World.cells?_some hc
      match cs, hlen with
      | [v0, v1], _ =>
        obtain ⟨s0, e0, _, w0⟩ := DataW.trod_string Try.underlying9 t0
        obtain ⟨s1, e1, _, w1⟩ := DataW.trod_string Try.underlying9 t1
        have q0 := hat 0 (by omega)
        have q1 := hat 1 (by omega)
        dsimp only at e0 e1
        rw [cells1S] at e0 e1
        simp only [List.drop_zero, List.drop_succ_cons, List.take_succ_cons, List.take_zero, List.cons.injEq, and_true] at e0 e1
        subst e0 e1
        have a0 : (x.add (i * 2)).add 0 = x.add (i * 2) := by simp [Addr.add]
        rw [a0] at q0
        unfold maxLen at w0 w1
        exact ⟨(s0, s1), q0, q1, by show s0.size ≤ _; omega, by show s1.size ≤ _; omega⟩)
    refine ⟨some x, c, ps, by rw [hcs, hol], .inr ⟨x, rfl, by omega, hm, fun i hi => hop i (by omega)⟩⟩

def okI (x : Int) : Prop := -9223372036854775808 ≤ x ∧ x ≤ 9223372036854775807

set_option maxRecDepth 100000 in
theorem open_record {H : Type} {enc : TypeId × Value → H} {W : World} {r : Reach} {b0 : Nat} {v : Value} {d : DataW H} {p : List MemPlace} (hv : Value.okWide Try.prog W r b0 38 v)
    (h : DataW.Trod enc Try.prog W 0 (fun _ => true) true 38 v d p) : ∃ (x : RecV) (ap : Option Addr) (cp : Nat) (aq : Option Addr) (cq : Nat), v = .agg (x.cells ap cp aq cq) ∧ Il W ap cp x.parts ∧ Ps W aq cq x.puts ∧ okI x.kind ∧ okI x.tid ∧ okI x.id := by
  obtain ⟨cs, rfl, hsz⟩ := okWide_struct Try.underlying38 hv
  rw [cells6R] at hsz
  obtain ⟨v0, v1, v2, v3, v4, v5, rfl⟩ := array6 hsz
  obtain ⟨fuel, hf⟩ := h
  obtain ⟨y0, y1, y2, y3, y4, y5, n, -, t0, t1, t2, t3, t4, t5⟩ := trod_struct6 Try.underlying38 hf
  dsimp only at t0 t1 t2 t3 t4 t5
  rw [cells1I] at t0
  rw [cells1L] at t1 t2
  rw [cells1B] at t3
  rw [cells1P] at t4
  rw [cells1Q] at t5
  simp only [Value.cells, List.drop_zero, List.drop_succ_cons, List.take_succ_cons, List.take_zero] at t0 t1 t2 t3 t4 t5
  obtain ⟨kd, e0, -, w0⟩ := DataW.trod_int Try.underlying3 t0
  obtain ⟨td, e1, -, w1⟩ := DataW.trod_int Try.underlying2 t1
  obtain ⟨id, e2, -, w2⟩ := DataW.trod_int Try.underlying2 t2
  obtain ⟨yes, e3, -⟩ := DataW.trod_bool Try.underlying4 t3
  obtain ⟨ap, cp, P, e4, hp⟩ := field_ints t4
  obtain ⟨aq, cq, Q, e5, hq⟩ := field_puts t5
  simp only [List.cons.injEq, and_true] at e0 e1 e2 e3
  subst e0 e1 e2 e3 e4 e5
  exact ⟨⟨kd, td, id, yes, P, Q⟩, ap, cp, aq, cq, rfl, hp, hq, bounds_i64 w0, bounds_i64 w1, bounds_i64 w2⟩

set_option maxRecDepth 100000 in
theorem open_packet {H : Type} {enc : TypeId × Value → H} {W : World} {r : Reach} {b0 : Nat} {v : Value} {d : DataW H} {p : List MemPlace} (hv : Value.okWide Try.prog W r b0 40 v)
    (h : DataW.Trod enc Try.prog W 0 (fun _ => true) true 40 v d p) : ∃ x : PacV, v = .agg x.cells ∧ okI x.kind ∧ okI x.src ∧ okI x.dst ∧ okI x.tid ∧ okI x.n := by
  obtain ⟨cs, rfl, hsz⟩ := okWide_struct Try.underlying40 hv
  rw [cells6K] at hsz
  obtain ⟨v0, v1, v2, v3, v4, v5, rfl⟩ := array6 hsz
  obtain ⟨fuel, hf⟩ := h
  obtain ⟨y0, y1, y2, y3, y4, y5, n, -, t0, t1, t2, t3, t4, t5⟩ := trod_struct6 Try.underlying40 hf
  dsimp only at t0 t1 t2 t3 t4 t5
  rw [cells1I] at t0 t1 t2 t4
  rw [cells1L] at t3
  rw [cells1B] at t5
  simp only [Value.cells, List.drop_zero, List.drop_succ_cons, List.take_succ_cons, List.take_zero] at t0 t1 t2 t3 t4 t5
  obtain ⟨kd, e0, -, w0⟩ := DataW.trod_int Try.underlying3 t0
  obtain ⟨x1, e1, -, w1⟩ := DataW.trod_int Try.underlying3 t1
  obtain ⟨x2, e2, -, w2⟩ := DataW.trod_int Try.underlying3 t2
  obtain ⟨td, e3, -, w3⟩ := DataW.trod_int Try.underlying2 t3
  obtain ⟨x4, e4, -, w4⟩ := DataW.trod_int Try.underlying3 t4
  obtain ⟨yes, e5, -⟩ := DataW.trod_bool Try.underlying4 t5
  simp only [List.cons.injEq, and_true] at e0 e1 e2 e3 e4 e5
  subst e0 e1 e2 e3 e4 e5
  exact ⟨⟨kd, x1, x2, td, x4, yes⟩, rfl, bounds_i64 w0, bounds_i64 w1, bounds_i64 w2, bounds_i64 w3, bounds_i64 w4⟩

end Go.Proofs.Ytanjbbmgpodbgaa
