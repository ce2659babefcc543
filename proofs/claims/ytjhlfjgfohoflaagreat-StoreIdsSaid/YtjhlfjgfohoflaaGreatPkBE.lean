/-
  Of the texts Bls Bxs Cnt, in build order, each as it was built alone.
-/
import Derived.Test.YtjhlfjgfohoflaaGreatChecked
import Derived.Test.YtjhlfjgfohoflaaGreatPkAA
import Derived.ProofKit
import Derived.OpenShut
import Derived.Deep.Slices
import Derived.Deep.Grids
import Derived.Test.YtjhlfjgfohoflaaGreatPkBC
import Derived.Test.YtjhlfjgfohoflaaGreatPkAX

/-
  A slice of truths that came in.
-/
namespace Go.Proofs.YtjhlfjgfohoflaaGreat
open Go.RowKit Go.ChangeShapes Go.WideShapes Go.ChangeAt Go.Deep

/-- A slice of truths, as cells. -/
def Bl (w : World) (ao : Option Addr) (c : Nat) (l : List Bool) : Prop :=
  (ao = none ∧ c = 0 ∧ l = []) ∨
  ∃ A : Addr, ao = some A ∧ l.length ≤ c ∧ c ≤ maxLen ∧ ∀ i, i < l.length → w.cell? (A.add i) = some (.bool (l.getD i false))

theorem Bl.at {w : World} {ao : Option Addr} {c : Nat} {l : List Bool} (h : Bl w ao c l) (hl : l ≠ []) : ∃ b off, ao = some ⟨b, off, none⟩ ∧ b < w.heap.size ∧ ∀ i, i < l.length → w.cell? ⟨b, off + i, none⟩ = some (.bool (l.getD i false)) := by
  rcases h with ⟨_, _, h⟩ | ⟨A, rfl, _, _, hc⟩
  · exact absurd h hl
  · obtain ⟨b, off, spot⟩ := A
    have h0 := hc 0 (List.length_pos_iff.2 hl)
    have hs : spot = none := by simpa [Addr.add] using World.cell?_spot h0
    subst hs
    have hc' : ∀ i, i < l.length → w.cell? ⟨b, off + i, none⟩ = some (.bool (l.getD i false)) := fun i hi => by
      have := hc i hi
      rwa [Addr.add_lit] at this
    exact ⟨b, off, rfl, World.block_lt_of_cell? _ _ (hc' 0 (List.length_pos_iff.2 hl)), hc'⟩

theorem Bl.len {w : World} {ao : Option Addr} {c : Nat} {l : List Bool} (h : Bl w ao c l) : (l.length : Int) ≤ 9223372036854775807 := by
  rcases h with ⟨_, _, rfl⟩ | ⟨A, _, q1, q2, _⟩
  · simp
  · unfold maxLen at q2; omega

theorem open_truths {H : Type} {enc : TypeId × Value → H} {W : World} {a : Option Addr} {len cap : Nat} {d : DataW H} {p : List MemPlace}
    (h : DataW.Trod enc Tryz.prog W 0 (fun _ => true) true 47 (.slice a len cap) d p) : ∃ l : List Bool, len = l.length ∧ Bl W a cap l := by
  obtain ⟨fuel, hf⟩ := h
  rcases open_bools Tryz.underlying47 Tryz.underlying4 (by kernel_rfl) hf with ⟨hcs, _⟩ | ⟨x, l, c, B, hcs, _, hl, hm, _, hcell⟩
  · simp [Value.cells] at hcs
    obtain ⟨rfl, rfl, rfl⟩ := hcs
    exact ⟨[], rfl, .inl ⟨rfl, rfl, rfl⟩⟩
  · simp [Value.cells] at hcs
    obtain ⟨rfl, rfl, rfl⟩ := hcs
    refine ⟨(List.range len).map B, by simp, .inr ⟨x, rfl, by simpa using hl, hm, fun i hi => ?_⟩⟩
    have hi2 : i < len := by simpa using hi
    rw [hcell i (by omega)]
    simp [List.getD, hi2]

theorem Bl.turn {w w' : World} {ao : Option Addr} {c : Nat} {l : List Bool} (h : Bl w ao c l) (t : Turn [] w w') : Bl w' ao c l := by
  rcases h with h | ⟨A, h1, h2, h3, h4⟩
  · exact .inl h
  · exact .inr ⟨A, h1, h2, h3, fun i hi => t.cell (h4 i hi) (by simp)⟩

end Go.Proofs.YtjhlfjgfohoflaaGreat


/-
  A store of a state into a law's own box.
-/
namespace Go.Proofs.YtjhlfjgfohoflaaGreat
open Go.RowKit Go.Proofs.YtjhlfjgfohoflaaGreat.V

theorem nine_heapC {w : World} {g : Nat} {c0 c1 c2 c3 c4 c5 c6 c7 c8 : Value} (h : w.heap[g]? = some (.cells #[c0, c1, c2, c3, c4, c5, c6, c7, c8] 27)) (u0 u1 u2 u3 u4 u5 u6 u7 u8 : Value) : (nine w g u0 u1 u2 u3 u4 u5 u6 u7 u8).heap[g]? = some (.cells #[u0, u1, u2, u3, u4, u5, u6, u7, u8] 27) := by
  have h1 := block_set (i := 8) (block_set (i := 7) (block_set (i := 6) (block_set (i := 5) (block_set (i := 4) (block_set (i := 3) (block_set (i := 2) (block_set (i := 1) (block_set (i := 0) h u0) u1) u2) u3) u4) u5) u6) u7) u8
  simp only [List.setIfInBounds_toArray, List.set_cons_zero, List.set_cons_succ] at h1
  exact h1

/-- Apply, of a state that may be, with its rows. -/
theorem apply_rows {w : World} {a : Ads} {s : StV} (h : StIs w a s) (hm : MayP s) (r : RecV) (ap aq : Option Addr) (cp cq : Nat) (hp : Il w ap cp r.parts) (hq : Ps w aq cq r.puts) (ht : okI r.tid) (hd : okI r.id) {u : StV} (hu : applyS s r = u) :
    Calls Tryz.prog 28 #[.agg (s.cells a), .agg (r.cells ap cp aq cq)] w fun e w' => ∃ a' LW LO LN, e = .returned (.agg (u.cells a')) ∧ Rows w' w.heap.size u a' LW LO LN ∧ Turn [] w w' := by
  refine (stApply_calls h hm.fit hm.few r ap aq cp cq hp hq ht hd).mono ?_
  rw [hu]
  exact fun e w' h => h

/-- The box takes what Apply gave. -/
theorem bx_store {x : World} {b : Nat} {a : Ads} {s : StV} (h : Bx x b a s) {lo : Nat} {u : StV} {a' : Ads} {LW : List (Lay BrV)} {LO LN : List (Lay PendV)} (r : Rows x lo u a' LW LO LN) (hu : MayP u) :
    Bx (nine x b (.int .i64 u.broker) (.int .i64 u.nextId) (.int .i64 u.nextSeq) (.int .i64 u.tx) (.slice a'.m u.ms.length a'.cm) (.slice a'.w u.waits.length a'.cw) (.slice a'.e u.ends.length a'.ce) (.slice a'.o u.open_.length a'.co) (.slice a'.n u.noes.length a'.cn)) b a' u ∧
    Turn [b] x (nine x b (.int .i64 u.broker) (.int .i64 u.nextId) (.int .i64 u.nextSeq) (.int .i64 u.tx) (.slice a'.m u.ms.length a'.cm) (.slice a'.w u.waits.length a'.cw) (.slice a'.e u.ends.length a'.ce) (.slice a'.o u.open_.length a'.co) (.slice a'.n u.noes.length a'.cn)) := by
  have T := nine_turn x b (.int .i64 u.broker) (.int .i64 u.nextId) (.int .i64 u.nextSeq) (.int .i64 u.tx) (.slice a'.m u.ms.length a'.cm) (.slice a'.w u.waits.length a'.cw) (.slice a'.e u.ends.length a'.ce) (.slice a'.o u.open_.length a'.co) (.slice a'.n u.noes.length a'.cn)
  refine ⟨⟨?_, (r.past T ⟨_, _, h.head⟩).is hu.deep⟩, T⟩
  have hh := h.head
  unfold StV.cells at hh
  exact nine_heapC hh _ _ _ _ _ _ _ _ _

end Go.Proofs.YtjhlfjgfohoflaaGreat


/-
  The states of StoreCounts, as values.
-/
namespace Go.Proofs.YtjhlfjgfohoflaaGreat
open Go.RowKit Go.Proofs.YtjhlfjgfohoflaaGreat.V

def bT : ByteArray := ⟨#[98]⟩
def tK (k : Nat) : Int := 8589934594 + (k : Int)
def eK (k : Nat) : List EndV := ⟨8589934593, true⟩ :: (List.range k).map fun j => ⟨tK j, false⟩
def mK (k : Nat) (y : Int) : MsgV := ⟨4294967297, qT, bT, 1, (k : Int), y⟩
def s1C : StV := ⟨1, 1, 1, 0, [], [⟨8589934593, [(qT, bT)]⟩], [], [], []⟩
def sC0 (k : Nat) : StV := ⟨1, 2, 2, 0, [mK k 0], [], eK k, [], []⟩
def sCA (k : Nat) : StV := ⟨1, 2, 2, 0, [mK k (tK k)], [], eK k, [], []⟩
def sCP (k : Nat) : StV := ⟨1, 2, 2, 0, [mK k (tK k)], [⟨tK k, []⟩], eK k, [], []⟩
def sCZ (k : Nat) : StV := ⟨1, 2, 2, 0, [], [], eK k ++ [⟨tK k, true⟩], [], []⟩
def rcP : RecV := ⟨4, 8589934593, 0, false, [], [(qT, bT)]⟩
def rcD : RecV := ⟨5, 8589934593, 0, true, [], []⟩
def rcT (k : Nat) : RecV := ⟨2, tK k, 4294967297, false, [], []⟩
def rcQ (k : Nat) : RecV := ⟨4, tK k, 0, false, [], []⟩
def rcE (k : Nat) (y : Bool) : RecV := ⟨5, tK k, 0, y, [], []⟩
def rcB (k : Nat) : RecV := ⟨3, tK k, 0, false, [], []⟩

theorem m1C : MayP s1C := mayB_iff.1 (by decide +kernel)
theorem st1C : applyS sN rcP = s1C := (eqStB_iff _ _).1 (by decide +kernel)
theorem st2C : applyS s1C rcD = sC0 0 := (eqStB_iff _ _).1 (by decide +kernel)
theorem mC0' : ∀ k : Fin 21, mayB (sC0 k.1) = true := by decide +kernel
theorem mCA' : ∀ k : Fin 20, mayB (sCA k.1) = true := by decide +kernel
theorem mCP' : ∀ k : Fin 20, mayB (sCP k.1) = true := by decide +kernel
theorem mCZ' : ∀ k : Fin 20, mayB (sCZ k.1) = true := by decide +kernel
theorem stT' : ∀ k : Fin 20, eqStB (applyS (sC0 k.1) (rcT k.1)) (sCA k.1) = true := by decide +kernel
theorem stQ' : ∀ k : Fin 20, eqStB (applyS (sCA k.1) (rcQ k.1)) (sCP k.1) = true := by decide +kernel
theorem stY' : ∀ k : Fin 20, eqStB (applyS (sCP k.1) (rcE k.1 true)) (sCZ k.1) = true := by decide +kernel
theorem stN' : ∀ k : Fin 20, eqStB (applyS (sCP k.1) (rcE k.1 false)) (sC0 (k.1 + 1)) = true := by decide +kernel
theorem stB' : ∀ k : Fin 20, eqStB (applyS (sCA k.1) (rcB k.1)) (sC0 (k.1 + 1)) = true := by decide +kernel
theorem mC0 {k : Nat} (h : k ≤ 20) : MayP (sC0 k) := mayB_iff.1 (mC0' ⟨k, by omega⟩)
theorem mCA {k : Nat} (h : k < 20) : MayP (sCA k) := mayB_iff.1 (mCA' ⟨k, h⟩)
theorem mCP {k : Nat} (h : k < 20) : MayP (sCP k) := mayB_iff.1 (mCP' ⟨k, h⟩)
theorem mCZ {k : Nat} (h : k < 20) : MayP (sCZ k) := mayB_iff.1 (mCZ' ⟨k, h⟩)
theorem stTc {k : Nat} (h : k < 20) : applyS (sC0 k) (rcT k) = sCA k := (eqStB_iff _ _).1 (stT' ⟨k, h⟩)
theorem stQc {k : Nat} (h : k < 20) : applyS (sCA k) (rcQ k) = sCP k := (eqStB_iff _ _).1 (stQ' ⟨k, h⟩)
theorem stYc {k : Nat} (h : k < 20) : applyS (sCP k) (rcE k true) = sCZ k := (eqStB_iff _ _).1 (stY' ⟨k, h⟩)
theorem stNc {k : Nat} (h : k < 20) : applyS (sCP k) (rcE k false) = sC0 (k + 1) := (eqStB_iff _ _).1 (stN' ⟨k, h⟩)
theorem stBc {k : Nat} (h : k < 20) : applyS (sCA k) (rcB k) = sC0 (k + 1) := (eqStB_iff _ _).1 (stB' ⟨k, h⟩)
theorem ok_tK {k : Nat} (h : k ≤ 20) : okI (tK k) := by unfold okI tK; omega
theorem dead_C (k : Nat) : deadB (mK k 0) = decide (3 ≤ (k : Int)) := by
  unfold deadB mK
  simp only [decide_true, Bool.true_and]

end Go.Proofs.YtjhlfjgfohoflaaGreat
