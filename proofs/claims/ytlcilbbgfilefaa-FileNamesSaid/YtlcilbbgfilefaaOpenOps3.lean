/-
  A slice of the file laws' operations that came in: its cells, five an operation; the walk of Cut.
-/
import Derived.Test.YtlcilbbgfilefaaFileRoomWalk
import Derived.Test.YtlcilbbgfilefaaShortNew
import Derived.Deep.Strs
import Derived.Deep.Slices
namespace Go.Proofs.Ytlcilbbgfilefaa
open Go.RowKit Go.ChangeShapes Go.WideShapes Go.ChangeAt Go.Deep

/-- An operation: its kind, its number, two names, a slice of bytes. -/
structure Op3 where
  kind : Int
  n : Int
  name : List UInt8
  to : List UInt8
  ao : Option Addr
  c : Nat
  b : List UInt8

def opNo : Op3 := ⟨0, 0, [], [], none, 0, []⟩

def Op3.ok (x : Op3) : Prop := (-9223372036854775808 ≤ x.kind ∧ x.kind ≤ 9223372036854775807) ∧ (-9223372036854775808 ≤ x.n ∧ x.n ≤ 9223372036854775807) ∧ x.name.length ≤ 9223372036854775807 ∧ x.to.length ≤ 9223372036854775807

/-- Its cells at a place. -/
def Op3At (w : World) (A : Addr) (x : Op3) : Prop :=
  x.ok ∧ Sl w x.ao x.c x.b ∧ w.cell? A = some (.int .i64 x.kind) ∧ w.cell? (A.add 1) = some (.int .i64 x.n) ∧ w.cell? (A.add 2) = some (.string ⟨x.name.toArray⟩) ∧ w.cell? (A.add 3) = some (.string ⟨x.to.toArray⟩) ∧ w.cell? (A.add 4) = some (.slice x.ao x.b.length x.c)

def Ol3 (w : World) (ao : Option Addr) (c : Nat) (l : List Op3) : Prop :=
  (ao = none ∧ c = 0 ∧ l = []) ∨ ∃ A : Addr, ao = some A ∧ l.length ≤ c ∧ c ≤ maxLen ∧ ∀ i, i < l.length → Op3At w (A.add (i * 5)) (l.getD i opNo)

theorem exists_ops {α : Type} (d : α) (P : Nat → α → Prop) : ∀ n, (∀ i, i < n → ∃ x, P i x) → ∃ l : List α, l.length = n ∧ ∀ i, i < n → P i (l.getD i d)
  | 0, _ => ⟨[], rfl, fun i hi => by omega⟩
  | n + 1, h => by
    obtain ⟨l, hl, hp⟩ := exists_ops d P n (fun i hi => h i (by omega))
    obtain ⟨x, hx⟩ := h n (by omega)
    refine ⟨l ++ [x], by simp [hl], fun i hi => ?_⟩
    by_cases e : i < n
    · have : (l ++ [x]).getD i d = l.getD i d := by simp [List.getD, List.getElem?_append, hl, e]
      rw [this]
      exact hp i e
    · obtain rfl : i = n := by omega
      have : (l ++ [x]).getD i d = x := by simp [List.getD, ← hl]
      rw [this]
      exact hx

theorem cells5 : Try.prog.cellsOf 32 = 5 := by kernel_rfl
theorem cellsI3 : Try.prog.cellsOf 3 = 1 := by kernel_rfl
theorem cellsS3 : Try.prog.cellsOf 9 = 1 := by kernel_rfl
theorem cellsB3 : Try.prog.cellsOf 30 = 1 := by kernel_rfl

/-- One cell that reads as a slice of bytes. -/
theorem open_cell_bytes {H : Type} {enc : TypeId × Value → H} {W : World} {v : Value} {x : DataW H × List MemPlace} {n : Nat}
    (h : DataW.trod enc Try.prog W 0 (fun _ => true) true n 30 [v] = some x) : ∃ a cap, ∃ l : List UInt8, v = .slice a l.length cap ∧ Sl W a cap l := by
  rcases open_ints Try.underlying30 Try.underlying5 (by kernel_rfl) h with ⟨hcs, _⟩ | ⟨x, l, c, zs, hcs, _, hl, hm, hz, _, hcell, hwz⟩
  · simp at hcs
    subst hcs
    exact ⟨none, 0, [], rfl, Sl.nil _⟩
  · simp at hcs
    subst hcs
    simp only [if_true] at hz
    have hlen : ((zs.take l).map fun n => UInt8.ofNat n.toNat).length = l := by simp; omega
    refine ⟨some x, c, (zs.take l).map fun n => UInt8.ofNat n.toNat, by rw [hlen], .inr ⟨x, rfl, by rw [hlen]; omega, hm, fun i hi => ?_⟩⟩
    have hi' : i < (zs.take l).length := by simpa using hi
    have hi2 : i < l := by simp at hi'; omega
    rw [bytes_of _ (fun n hn => hwz n (List.mem_of_mem_take hn)) i hi', hcell i (by omega)]
    simp [List.getD, hi2]

theorem text_le {s : ByteArray} (h : s.size ≤ maxLen) : s.data.toList.length ≤ 9223372036854775807 := by
  unfold maxLen at h
  have : s.data.toList.length = s.size := by rw [Array.length_toList]; rfl
  omega

/-- The five fields of a struct, each with its own reading. -/
theorem trod_five {H : Type} {enc : TypeId × Value → H} {P : Program} {w : World} {base : Nat} {spare : Nat → Bool} {held : Bool} {t : TypeId} {f0 f1 f2 f3 f4 : Field} {fuel : Nat} {cs : List Value} {x : DataW H × List MemPlace} (ht : P.underlying t = some (.struct #[f0, f1, f2, f3, f4]))
    (h : DataW.trod enc P w base spare held fuel t cs = some x) : ∃ y0 y1 y2 y3 y4 n, cs.length = P.cellsOf t ∧
      DataW.trod enc P w base spare held n f0.type ((cs.drop f0.offset).take (P.cellsOf f0.type)) = some y0 ∧ DataW.trod enc P w base spare held n f1.type ((cs.drop f1.offset).take (P.cellsOf f1.type)) = some y1 ∧
      DataW.trod enc P w base spare held n f2.type ((cs.drop f2.offset).take (P.cellsOf f2.type)) = some y2 ∧ DataW.trod enc P w base spare held n f3.type ((cs.drop f3.offset).take (P.cellsOf f3.type)) = some y3 ∧
      DataW.trod enc P w base spare held n f4.type ((cs.drop f4.offset).take (P.cellsOf f4.type)) = some y4 := by
  obtain ⟨xs, n, _, _, hl, hlen, hf⟩ := DataW.trod_struct ht h
  match xs, hlen with
  | [y0, y1, y2, y3, y4], _ => exact ⟨y0, y1, y2, y3, y4, n, hl, by simpa using hf 0 f0 rfl, by simpa using hf 1 f1 rfl, by simpa using hf 2 f2 rfl, by simpa using hf 3 f3 rfl, by simpa using hf 4 f4 rfl⟩

set_option maxRecDepth 100000 in
theorem open_ops3 {H : Type} {enc : TypeId × Value → H} {W : World} {a : Option Addr} {len cap : Nat} {d : DataW H} {p : List MemPlace}
    (h : DataW.Trod enc Try.prog W 0 (fun _ => true) true 22 (.slice a len cap) d p) : ∃ l : List Op3, len = l.length ∧ Ol3 W a cap l := by
  obtain ⟨fuel, hf⟩ := h
  rcases open_slice Try.underlying22 hf with ⟨hcs, _⟩ | ⟨x, l, c, m, n, D, Pl, hcs, _, hl, hm, hmm, _, hel⟩
  · simp [Value.cells] at hcs
    obtain ⟨rfl, rfl, rfl⟩ := hcs
    exact ⟨[], rfl, .inl ⟨rfl, rfl, rfl⟩⟩
  · simp [Value.cells] at hcs
    obtain ⟨rfl, rfl, rfl⟩ := hcs
    simp only [if_true] at hmm
    rw [cells5] at hel
    obtain ⟨ops, hol, hop⟩ := exists_ops opNo (fun i (o : Op3) => Op3At W (x.add (i * 5)) o) len (by
      intro i hi
      obtain ⟨cs, hc, ht⟩ := hel i (by omega)
      obtain ⟨y0, y1, y2, y3, y4, k, hlen, t0, t1, t2, t3, t4⟩ := trod_five Try.underlying32 ht
      rw [cells5] at hlen
      obtain ⟨_, _, hat⟩ := World.cells?_some hc
      match cs, hlen with
      | [v0, v1, v2, v3, v4], _ =>
        dsimp only at t0 t1 t2 t3 t4
        rw [cellsI3] at t0 t1
        rw [cellsS3] at t2 t3
        rw [cellsB3] at t4
        simp only [List.drop_zero, List.drop_succ_cons, List.take_succ_cons, List.take_zero] at t0 t1 t2 t3 t4
        obtain ⟨kd, e0, _, w0⟩ := DataW.trod_int Try.underlying3 t0
        obtain ⟨nn, e1, _, w1⟩ := DataW.trod_int Try.underlying3 t1
        obtain ⟨s, e2, _, w2⟩ := DataW.trod_string Try.underlying9 t2
        obtain ⟨s', e3, _, w3⟩ := DataW.trod_string Try.underlying9 t3
        obtain ⟨ba, bc, bl, e4, hsl⟩ := open_cell_bytes t4
        simp only [List.cons.injEq, and_true] at e0 e1 e2 e3
        subst e0 e1 e2 e3 e4
        have q0 := hat 0 (by omega)
        have q1 := hat 1 (by omega)
        have q2 := hat 2 (by omega)
        have q3 := hat 3 (by omega)
        have q4 := hat 4 (by omega)
        have a0 : (x.add (i * 5)).add 0 = x.add (i * 5) := by simp [Addr.add]
        rw [a0] at q0
        refine ⟨⟨kd, nn, s.data.toList, s'.data.toList, ba, bc, bl⟩, ⟨bounds_i64 w0, bounds_i64 w1, ?_, ?_⟩, hsl, q0, q1, q2, q3, q4⟩
        · exact text_le w2
        · exact text_le w3)
    refine ⟨ops, hol.symm, .inr ⟨x, rfl, by omega, hm, fun i hi => hop i (by omega)⟩⟩

set_option maxHeartbeats 400000 in
/-- A text's front. -/
theorem cut_its (s : List UInt8) (n : Nat) (w : World) (_hs : s.length ≤ 9223372036854775807) (_hn : n ≤ 1000) :
    Calls Try.prog 23 #[.string ⟨s.toArray⟩, .int .i64 (n : Int)] w fun e w' => ∃ x : List UInt8, e = .returned (.string ⟨x.toArray⟩) ∧ x.length ≤ n ∧ Hid (x = s.take n) ∧ w = w' := by
  obtain ⟨k, hk⟩ : ∃ k : Nat, min (s.length : Int) (n : Int) = (k : Int) := ⟨min s.length n, by omega⟩
  have hk2 : k = min s.length n := by omega
  have hx : s.take n = s.take k := by
    by_cases h : n ≤ s.length
    · rw [hk2, Nat.min_eq_right h]
    · rw [hk2, Nat.min_eq_left (by omega), List.take_of_length_le (by omega), List.take_of_length_le (Nat.le_refl _)]
  have hxt : (⟨s.toArray⟩ : ByteArray).extract 0 k = ⟨(s.take k).toArray⟩ := by
    apply ByteArray.ext
    apply Array.toList_inj.1
    rw [Lib.extract_data]
    simp
  have HXT := Lib.hid hxt
  have HX := Lib.hid hx
  have hkl : (k : Int) ≤ (s.length : Int) := by omega
  have hkn : k ≤ n := by omega
  clear hk2 hx hxt
  go_enter Try.func23, Try.ntmps23
  go_wp2
  go_ret
  refine ⟨s.take k, ?_, by simp; omega, HX.out.symm, rfl⟩
  rw [← HXT.out]
  rfl

/-- Short's answer, in new memory, under a name of its own. -/
theorem short_fresh (ao : Option Addr) (c n m : Nat) (l : List UInt8) (w : World) (h : Sl w ao c l) (hm : m = l.length) (hn : n ≤ 1000) :
    Calls Try.prog 27 #[.slice ao m c, .int .i64 (n : Int)] w fun e w' =>
      ∃ ao' c' x, e = .returned (.slice ao' (List.length x) c') ∧ Hid (x = l.take n) ∧ x.length ≤ n ∧ Sl w' ao' c' x ∧ Below w.heap.size w w' ∧ ∀ A, ao' = some A → w.heap.size ≤ A.block := by
  subst hm
  refine (short_new ao c n l w h hn).mono ?_
  rintro e w' ⟨ao', c', rfl, hs, hb, ha⟩
  exact ⟨ao', c', l.take n, rfl, rfl, by simp; omega, hs, hb, ha⟩

end Go.Proofs.Ytlcilbbgfilefaa
