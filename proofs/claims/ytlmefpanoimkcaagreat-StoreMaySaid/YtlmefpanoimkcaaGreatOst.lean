/-
  Ost
-/
import Derived.Test.YtlmefpanoimkcaaGreatPkBE
set_option maxRecDepth 100000
namespace Go.Proofs.YtlmefpanoimkcaaGreat
open Go.RowKit Go.ChangeShapes Go.WideShapes Go.ChangeAt Go.Deep Go.Proofs.YtlmefpanoimkcaaGreat.V
def Tx {α : Type} (n : Nat) (f : α → List Value) (w : World) (ao : Option Addr) (c : Nat) (l : List α) : Prop :=
 (ao = none ∧ c = 0 ∧ l = []) ∨
 ∃ A : Addr, ao = some A ∧ l.length ≤ c ∧ c ≤ maxLen ∧ ∀ i x, l[i]? = some x → ∀ j u, (f x)[j]? = some u → w.cell? ((A.add (i * n)).add j) = some u
theorem Tx.at {α : Type} {n : Nat} {f : α → List Value} {w : World} {ao : Option Addr} {c : Nat} {l : List α} (h : Tx n f w ao c l) (hf : ∀ x, f x ≠ []) {i : Nat} {x : α} (hi : l[i]? = some x) :
 ∃ b off, ao = some ⟨b, off, none⟩ ∧ ∀ i x, l[i]? = some x → ∀ j u, (f x)[j]? = some u → w.cell? ⟨b, off + i * n + j, none⟩ = some u := by
 rcases h with ⟨_, _, rfl⟩ | ⟨A, rfl, _, _, hc⟩
 · simp at hi
 · obtain ⟨b, off, spot⟩ := A
   have hil := (List.getElem?_eq_some_iff.1 hi).1
   obtain ⟨x0, hx0⟩ : ∃ x0, l[0]? = some x0 := ⟨_, List.getElem?_eq_getElem (by omega)⟩
   obtain ⟨u, hu⟩ : ∃ u, (f x0)[0]? = some u := by
    cases hfx : f x0 with
    | nil => exact absurd hfx (hf x0)
    | cons y l => exact ⟨y, rfl⟩
   have h0 := hc 0 x0 hx0 0 u hu
   have hs : spot = none := by simpa [Addr.add] using World.cell?_spot h0
   subst hs
   exact ⟨b, off, rfl, fun i x hi j u hu => by
    have := hc i x hi j u hu
    rwa [Addr.add_lit, Addr.add_lit] at this⟩
theorem Tx.len {α : Type} {n : Nat} {f : α → List Value} {w : World} {ao : Option Addr} {c : Nat} {l : List α} (h : Tx n f w ao c l) : (l.length : Int) ≤ 9223372036854775807 := by
 rcases h with ⟨_, _, rfl⟩ | ⟨A, _, q1, q2, _⟩
 · simp
 · unfold maxLen at q2; omega
theorem Tx.still {α : Type} {n : Nat} {f : α → List Value} {w w' : World} {ao : Option Addr} {c : Nat} {l : List α} (h : Tx n f w ao c l) (t : Turn [] w w') : Tx n f w' ao c l := by
 rcases h with h | ⟨A, h1, h2, h3, h4⟩
 · exact .inl h
 · exact .inr ⟨A, h1, h2, h3, fun i x hx j u hu => t.cell (h4 i x hx j u hu)⟩
theorem open_rows {α : Type} (d : α) (n : Nat) (f : α → List Value) (R : α → Prop) {H : Type} {enc : TypeId × Value → H} {W : World} {T e : TypeId} {v : Value} {fuel : Nat} {y : DataW H × List MemPlace}
 (ht : Tryz.prog.underlying T = some (.slice e)) (hn : Tryz.prog.cellsOf e = n)
 (each : ∀ (cs : List Value) (k : Nat) (z : DataW H × List MemPlace), cs.length = n → DataW.trod enc Tryz.prog W 0 (fun _ => true) true k e cs = some z → ∃ x : α, cs = f x ∧ R x)
 (hf : DataW.trod enc Tryz.prog W 0 (fun _ => true) true fuel T [v] = some y) : ∃ a c l, v = .slice a l.length c ∧ Tx n f W a c l ∧ (∀ x ∈ l, R x) ∧ ∀ B, (∀ k ∈ DataW.weights Tryz.prog T y.1, k ≤ B) → l.length * Tryz.prog.bytesOf e ≤ B := by
 rcases open_slice ht hf with ⟨hcs, _⟩ | ⟨x, len, c, m, k, E, Pl, hcs, _, hl, hm, hmm, hyx, hel⟩
 · simp at hcs
   exact ⟨none, 0, [], by rw [hcs]; rfl, .inl ⟨rfl, rfl, rfl⟩, by simp, fun B _ => by simp⟩
 · simp at hcs
   simp only [if_true] at hmm
   rw [hn] at hel
   obtain ⟨ps, hol, hop⟩ := exists_list d (fun i (p : α) => (∀ j u, (f p)[j]? = some u → W.cell? ((x.add (i * n)).add j) = some u) ∧ R p) len (by
    intro i hi
    obtain ⟨cs, hc, hz⟩ := hel i (by omega)
    obtain ⟨_, hlen, hat⟩ := World.cells?_some hc
    obtain ⟨p, hp, hr⟩ := each cs k _ (by omega) hz
    refine ⟨p, fun j u hu => ?_, hr⟩
    have hj : j < n := by
     have := (List.getElem?_eq_some_iff.1 hu).1
     rw [← hp] at this
     omega
    have := hat j hj
    rw [this, ← hu, hp])
   refine ⟨some x, c, ps, by rw [hcs, hol], .inr ⟨x, rfl, by omega, hm, fun i y hy => ?_⟩, fun y hy => ?_, fun B hB => ?_⟩
   rotate_left
   rotate_left
   · have := hB ((len + (m - len)) * Tryz.prog.bytesOf e) (by rw [hyx]; simp [DataW.weights, ht])
     exact Nat.le_trans (Nat.mul_le_mul_right _ (by omega)) this
   · have hi : i < ps.length := (List.getElem?_eq_some_iff.1 hy).1
     have := (hop i (by omega)).1
     rw [List.getD, hy] at this
     exact this
   · obtain ⟨i, hi, rfl⟩ := List.getElem_of_mem hy
     have := (hop i (by omega)).2
     rw [List.getD, List.getElem?_eq_getElem hi] at this
     exact this
section
variable {H : Type} {enc : TypeId × Value → H} {P : Program} {w : World} {base : Nat} {spare : Nat → Bool} {held : Bool}
theorem trod_struct9 {t : TypeId} {f0 f1 f2 f3 f4 f5 f6 f7 f8 : Field} {fuel : Nat} {cs : List Value} {x : DataW H × List MemPlace} (ht : P.underlying t = some (.struct #[f0, f1, f2, f3, f4, f5, f6, f7, f8])) (h : DataW.trod enc P w base spare held fuel t cs = some x) :
 ∃ y0 y1 y2 y3 y4 y5 y6 y7 y8 n, cs.length = P.cellsOf t ∧ DataW.trod enc P w base spare held n f0.type ((cs.drop f0.offset).take (P.cellsOf f0.type)) = some y0 ∧ DataW.trod enc P w base spare held n f1.type ((cs.drop f1.offset).take (P.cellsOf f1.type)) = some y1 ∧ DataW.trod enc P w base spare held n f2.type ((cs.drop f2.offset).take (P.cellsOf f2.type)) = some y2 ∧ DataW.trod enc P w base spare held n f3.type ((cs.drop f3.offset).take (P.cellsOf f3.type)) = some y3 ∧ DataW.trod enc P w base spare held n f4.type ((cs.drop f4.offset).take (P.cellsOf f4.type)) = some y4 ∧ DataW.trod enc P w base spare held n f5.type ((cs.drop f5.offset).take (P.cellsOf f5.type)) = some y5 ∧ DataW.trod enc P w base spare held n f6.type ((cs.drop f6.offset).take (P.cellsOf f6.type)) = some y6 ∧ DataW.trod enc P w base spare held n f7.type ((cs.drop f7.offset).take (P.cellsOf f7.type)) = some y7 ∧ DataW.trod enc P w base spare held n f8.type ((cs.drop f8.offset).take (P.cellsOf f8.type)) = some y8 ∧
  ∀ k, (k ∈ DataW.weights P f4.type y4.1 ∨ k ∈ DataW.weights P f5.type y5.1 ∨ k ∈ DataW.weights P f6.type y6.1 ∨ k ∈ DataW.weights P f7.type y7.1 ∨ k ∈ DataW.weights P f8.type y8.1) → k ∈ DataW.weights P t x.1 := by
 obtain ⟨xs, n, _, rfl, hl, hlen, hf⟩ := DataW.trod_struct ht h
 match xs, hlen with
 | [y0, y1, y2, y3, y4, y5, y6, y7, y8], _ => exact ⟨y0, y1, y2, y3, y4, y5, y6, y7, y8, n, hl, by simpa using hf 0 f0 rfl, by simpa using hf 1 f1 rfl, by simpa using hf 2 f2 rfl, by simpa using hf 3 f3 rfl, by simpa using hf 4 f4 rfl, by simpa using hf 5 f5 rfl, by simpa using hf 6 f6 rfl, by simpa using hf 7 f7 rfl, by simpa using hf 8 f8 rfl, fun k hk => by
  simp only [List.map_cons, List.map_nil, DataW.weights, ht, DataW.weightsEach, List.mem_append]
  rcases hk with hk | hk | hk | hk | hk
  · exact .inr (.inr (.inr (.inr (.inl hk))))
  · exact .inr (.inr (.inr (.inr (.inr (.inl hk)))))
  · exact .inr (.inr (.inr (.inr (.inr (.inr (.inl hk))))))
  · exact .inr (.inr (.inr (.inr (.inr (.inr (.inr (.inl hk)))))))
  · exact .inr (.inr (.inr (.inr (.inr (.inr (.inr (.inr (.inl hk))))))))⟩
end
theorem array9 {α : Type} {cs : Array α} (h : cs.size = 9) : ∃ c0 c1 c2 c3 c4 c5 c6 c7 c8, cs = #[c0, c1, c2, c3, c4, c5, c6, c7, c8] := by
 obtain ⟨l⟩ := cs
 match l, h with
 | [c0, c1, c2, c3, c4, c5, c6, c7, c8], _ => exact ⟨c0, c1, c2, c3, c4, c5, c6, c7, c8, rfl⟩
theorem bytes64M : Tryz.prog.bytesOf 49 = 64 := by kernel_rfl
theorem bytes32W : Tryz.prog.bytesOf 81 = 32 := by kernel_rfl
theorem bytes16E : Tryz.prog.bytesOf 61 = 16 := by kernel_rfl
theorem bytes32P : Tryz.prog.bytesOf 65 = 32 := by kernel_rfl
theorem cells6M : Tryz.prog.cellsOf 49 = 6 := by kernel_rfl
theorem cells2W : Tryz.prog.cellsOf 81 = 2 := by kernel_rfl
theorem cells2E : Tryz.prog.cellsOf 61 = 2 := by kernel_rfl
theorem cells2P : Tryz.prog.cellsOf 65 = 2 := by kernel_rfl
theorem cells9S : Tryz.prog.cellsOf 27 = 9 := by kernel_rfl
theorem cells1M : Tryz.prog.cellsOf 22 = 1 := by kernel_rfl
theorem cells1W : Tryz.prog.cellsOf 23 = 1 := by kernel_rfl
theorem cells1E : Tryz.prog.cellsOf 24 = 1 := by kernel_rfl
theorem cells1D : Tryz.prog.cellsOf 25 = 1 := by kernel_rfl
def msgOk (m : MsgV) : Prop := okI m.id ∧ okI m.seq ∧ okI m.count ∧ okI m.by_ ∧ m.queue.size ≤ 9223372036854775807 ∧ m.body.size ≤ 9223372036854775807
theorem each_msg {H : Type} {enc : TypeId × Value → H} {W : World} (cs : List Value) (k : Nat) (z : DataW H × List MemPlace) (hl : cs.length = 6) (hz : DataW.trod enc Tryz.prog W 0 (fun _ => true) true k 49 cs = some z) : ∃ x : MsgV, cs = msgC x ∧ msgOk x := by
 obtain ⟨y0, y1, y2, y3, y4, y5, n, -, t0, t1, t2, t3, t4, t5⟩ := trod_struct6 Tryz.underlying49 hz
 match cs, hl with
 | [v0, v1, v2, v3, v4, v5], _ =>
  dsimp only at t0 t1 t2 t3 t4 t5
  rw [cells1L] at t0 t3 t5
  rw [cells1S] at t1 t2
  rw [cells1I] at t4
  simp only [List.drop_zero, List.drop_succ_cons, List.take_succ_cons, List.take_zero] at t0 t1 t2 t3 t4 t5
  obtain ⟨i0, e0, -, w0⟩ := DataW.trod_int Tryz.underlying2 t0
  obtain ⟨s1, e1, -, w1⟩ := DataW.trod_string Tryz.underlying9 t1
  obtain ⟨s2, e2, -, w2⟩ := DataW.trod_string Tryz.underlying9 t2
  obtain ⟨i3, e3, -, w3⟩ := DataW.trod_int Tryz.underlying2 t3
  obtain ⟨i4, e4, -, w4⟩ := DataW.trod_int Tryz.underlying3 t4
  obtain ⟨i5, e5, -, w5⟩ := DataW.trod_int Tryz.underlying2 t5
  simp only [List.cons.injEq, and_true] at e0 e1 e2 e3 e4 e5
  subst e0 e1 e2 e3 e4 e5
  unfold maxLen at w1 w2
  exact ⟨⟨i0, s1, s2, i3, i4, i5⟩, rfl, bounds_i64 w0, bounds_i64 w3, bounds_i64 w4, bounds_i64 w5, by show s1.size ≤ _; omega, by show s2.size ≤ _; omega⟩
theorem each_end {H : Type} {enc : TypeId × Value → H} {W : World} (cs : List Value) (k : Nat) (z : DataW H × List MemPlace) (hl : cs.length = 2) (hz : DataW.trod enc Tryz.prog W 0 (fun _ => true) true k 61 cs = some z) : ∃ x : EndV, cs = endC x ∧ okI x.tid := by
 obtain ⟨y0, y1, n, -, -, t0, t1⟩ := trod_struct2 Tryz.underlying61 hz
 match cs, hl with
 | [v0, v1], _ =>
  dsimp only at t0 t1
  rw [cells1L] at t0
  rw [cells1B] at t1
  simp only [List.drop_zero, List.drop_succ_cons, List.take_succ_cons, List.take_zero] at t0 t1
  obtain ⟨i0, e0, -, w0⟩ := DataW.trod_int Tryz.underlying2 t0
  obtain ⟨b1, e1, -⟩ := DataW.trod_bool Tryz.underlying4 t1
  simp only [List.cons.injEq, and_true] at e0 e1
  subst e0 e1
  exact ⟨⟨i0, b1⟩, rfl, bounds_i64 w0⟩
theorem each_wait {H : Type} {enc : TypeId × Value → H} {W : World} (cs : List Value) (k : Nat) (z : DataW H × List MemPlace) (hl : cs.length = 2) (hz : DataW.trod enc Tryz.prog W 0 (fun _ => true) true k 81 cs = some z) : ∃ x : Lay BrV, cs = brC x ∧ Ps W x.ao x.c x.v.puts ∧ okI x.v.tid := by
 obtain ⟨y0, y1, n, -, -, t0, t1⟩ := trod_struct2 Tryz.underlying81 hz
 match cs, hl with
 | [v0, v1], _ =>
  dsimp only at t0 t1
  rw [cells1L] at t0
  rw [cells1Q] at t1
  simp only [List.drop_zero, List.drop_succ_cons, List.take_succ_cons, List.take_zero] at t0 t1
  obtain ⟨i0, e0, -, w0⟩ := DataW.trod_int Tryz.underlying2 t0
  obtain ⟨ao, c, Q, e1, hq⟩ := field_puts t1
  simp only [List.cons.injEq, and_true] at e0
  subst e0 e1
  exact ⟨⟨⟨i0, Q⟩, ao, c⟩, rfl, hq, bounds_i64 w0⟩
theorem each_pend {H : Type} {enc : TypeId × Value → H} {W : World} (cs : List Value) (k : Nat) (z : DataW H × List MemPlace) (hl : cs.length = 2) (hz : DataW.trod enc Tryz.prog W 0 (fun _ => true) true k 65 cs = some z) : ∃ x : Lay PendV, cs = pendC x ∧ Il W x.ao x.c x.v.parts ∧ okI x.v.tid := by
 obtain ⟨y0, y1, n, -, -, t0, t1⟩ := trod_struct2 Tryz.underlying65 hz
 match cs, hl with
 | [v0, v1], _ =>
  dsimp only at t0 t1
  rw [cells1L] at t0
  rw [cells1P] at t1
  simp only [List.drop_zero, List.drop_succ_cons, List.take_succ_cons, List.take_zero] at t0 t1
  obtain ⟨i0, e0, -, w0⟩ := DataW.trod_int Tryz.underlying2 t0
  obtain ⟨ao, c, Q, e1, hq⟩ := field_ints t1
  simp only [List.cons.injEq, and_true] at e0
  subst e0 e1
  exact ⟨⟨⟨i0, Q⟩, ao, c⟩, rfl, hq, bounds_i64 w0⟩
structure StX (w : World) (a : Ads) (s : StV) : Prop where
 ms : Tx 6 msgC w a.m a.cm s.ms
 waits : ∃ L : List (Lay BrV), L.map Lay.v = s.waits ∧ Tx 2 brC w a.w a.cw L ∧ ∀ x ∈ L, Ps w x.ao x.c x.v.puts
 ends : Tx 2 endC w a.e a.ce s.ends
 open_ : ∃ L : List (Lay PendV), L.map Lay.v = s.open_ ∧ Tx 2 pendC w a.o a.co L ∧ ∀ x ∈ L, Il w x.ao x.c x.v.parts
 noes : ∃ L : List (Lay PendV), L.map Lay.v = s.noes ∧ Tx 2 pendC w a.n a.cn L ∧ ∀ x ∈ L, Il w x.ao x.c x.v.parts
theorem open_state {H : Type} {enc : TypeId × Value → H} {W : World} {r : Reach} {b0 : Nat} {v : Value} {d : DataW H} {p : List MemPlace} (hv : Value.okWide Tryz.prog W r b0 27 v)
 (h : DataW.Trod enc Tryz.prog W 0 (fun _ => true) true 27 v d p) : ∃ (s : StV) (a : Ads), v = .agg (s.cells a) ∧ StX W a s ∧ s.fit ∧ ∀ B, (∀ k ∈ DataW.weights Tryz.prog 27 d, k ≤ B) → s.ms.length * 64 ≤ B ∧ s.waits.length * 32 ≤ B ∧ s.ends.length * 16 ≤ B ∧ s.open_.length * 32 ≤ B ∧ s.noes.length * 32 ≤ B := by
 obtain ⟨cs, rfl, hsz⟩ := okWide_struct Tryz.underlying27 hv
 rw [cells9S] at hsz
 obtain ⟨v0, v1, v2, v3, v4, v5, v6, v7, v8, rfl⟩ := array9 hsz
 obtain ⟨fuel, hf⟩ := h
 obtain ⟨y0, y1, y2, y3, y4, y5, y6, y7, y8, n, -, t0, t1, t2, t3, t4, t5, t6, t7, t8, hwt⟩ := trod_struct9 Tryz.underlying27 hf
 dsimp only at t0 t1 t2 t3 t4 t5 t6 t7 t8
 rw [cells1I] at t0
 rw [cells1L] at t1 t2 t3
 rw [cells1M] at t4
 rw [cells1W] at t5
 rw [cells1E] at t6
 rw [cells1D] at t7 t8
 simp only [Value.cells, List.drop_zero, List.drop_succ_cons, List.take_succ_cons, List.take_zero] at t0 t1 t2 t3 t4 t5 t6 t7 t8
 obtain ⟨i0, e0, -, w0⟩ := DataW.trod_int Tryz.underlying3 t0
 obtain ⟨i1, e1, -, w1⟩ := DataW.trod_int Tryz.underlying2 t1
 obtain ⟨i2, e2, -, w2⟩ := DataW.trod_int Tryz.underlying2 t2
 obtain ⟨i3, e3, -, w3⟩ := DataW.trod_int Tryz.underlying2 t3
 obtain ⟨a4, c4, l4, e4, h4, r4, b4⟩ := open_rows ⟨0, ⟨#[]⟩, ⟨#[]⟩, 0, 0, 0⟩ 6 msgC msgOk Tryz.underlying22 cells6M each_msg t4
 obtain ⟨a5, c5, l5, e5, h5, r5, b5⟩ := open_rows ⟨⟨0, []⟩, none, 0⟩ 2 brC (fun x => Ps W x.ao x.c x.v.puts ∧ okI x.v.tid) Tryz.underlying23 cells2W each_wait t5
 obtain ⟨a6, c6, l6, e6, h6, r6, b6⟩ := open_rows ⟨0, false⟩ 2 endC (fun x => okI x.tid) Tryz.underlying24 cells2E each_end t6
 obtain ⟨a7, c7, l7, e7, h7, r7, b7⟩ := open_rows ⟨⟨0, []⟩, none, 0⟩ 2 pendC (fun x => Il W x.ao x.c x.v.parts ∧ okI x.v.tid) Tryz.underlying25 cells2P each_pend t7
 obtain ⟨a8, c8, l8, e8, h8, r8, b8⟩ := open_rows ⟨⟨0, []⟩, none, 0⟩ 2 pendC (fun x => Il W x.ao x.c x.v.parts ∧ okI x.v.tid) Tryz.underlying25 cells2P each_pend t8
 simp only [List.cons.injEq, and_true] at e0 e1 e2 e3
 subst e0 e1 e2 e3 e4 e5 e6 e7 e8
 refine ⟨⟨i0, i1, i2, i3, l4, l5.map Lay.v, l6, l7.map Lay.v, l8.map Lay.v⟩, ⟨a4, c4, a5, c5, a6, c6, a7, c7, a8, c8⟩, ?_, ⟨h4, ⟨l5, rfl, h5, fun x hx => (r5 x hx).1⟩, h6, ⟨l7, rfl, h7, fun x hx => (r7 x hx).1⟩, ⟨l8, rfl, h8, fun x hx => (r8 x hx).1⟩⟩, ?_, fun B hB => ?_⟩
 · simp [StV.cells]
 · refine ⟨bounds_i64 w0, bounds_i64 w1, bounds_i64 w2, bounds_i64 w3, r4, ?_, r6, ?_, ?_⟩
   · intro x hx
     obtain ⟨y, hy, rfl⟩ := List.mem_map.1 hx
     exact (r5 y hy).2
   · intro x hx
     obtain ⟨y, hy, rfl⟩ := List.mem_map.1 hx
     exact (r7 y hy).2
   · intro x hx
     obtain ⟨y, hy, rfl⟩ := List.mem_map.1 hx
     exact (r8 y hy).2
 · rw [bytes64M] at b4
   rw [bytes32W] at b5
   rw [bytes16E] at b6
   rw [bytes32P] at b7 b8
   refine ⟨b4 B fun k hk => hB k (hwt k (.inl hk)), ?_, b6 B fun k hk => hB k (hwt k (.inr (.inr (.inl hk)))), ?_, ?_⟩
   · rw [List.length_map]; exact b5 B fun k hk => hB k (hwt k (.inr (.inl hk)))
   · rw [List.length_map]; exact b7 B fun k hk => hB k (hwt k (.inr (.inr (.inr (.inl hk)))))
   · rw [List.length_map]; exact b8 B fun k hk => hB k (hwt k (.inr (.inr (.inr (.inr hk)))))
end Go.Proofs.YtlmefpanoimkcaaGreat
