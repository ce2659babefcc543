/-
  Of the texts Bxr, in build order, each as it was built alone.
-/
import Derived.Test.YtjhlfjgfohoflaaGreatPkBE

/-
  A state in a law's own box, beside other rows.
-/
namespace Go.Proofs.YtjhlfjgfohoflaaGreat
open Go.RowKit Go.Proofs.YtjhlfjgfohoflaaGreat.V

theorem ownsRow_lo {w : World} {B : Nat} {e : TypeId} {z n : Nat} {v : Value} {xs : List Value} (h : w.ownsRow B e z v n xs) {k : Nat} (hk : v.ownBlock = some k) : B ≤ k := by
  rcases h.2 with ⟨rfl, _⟩ | ⟨g, cap, cur, rfl, hB, _⟩
  · simp [Value.ownBlock] at hk
  · have : g = k := by simpa [Value.ownBlock] using hk
    subst this
    exact hB

theorem ownsRow_over {w w1 : World} {B q : Nat} {e : TypeId} {z n : Nat} {v : Value} {xs : List Value} (h : w.ownsRow B e z v n xs) (t : Turn [q] w w1) (hq : q < B) : w1.ownsRow B e z v n xs :=
  ownsRow_turn h t (fun k hk => by have := ownsRow_lo h hk; simp; omega)

/-- An elder block turns. -/
theorem Rows.over {w w1 : World} {lo q : Nat} {s : StV} {a : Ads} {LW : List (Lay BrV)} {LO LN : List (Lay PendV)} (h : Rows w lo s a LW LO LN) (t : Turn [q] w w1) (hq : q < lo) : Rows w1 lo s a LW LO LN :=
  ⟨h.vw, h.vo, h.vn, ownsRow_over h.ms t hq, ownsRow_over h.ws t hq, ownsRow_over h.es t hq, ownsRow_over h.os t hq, ownsRow_over h.ns t hq, h.on,
    fun x hx => ownsRow_over (h.puts x hx) t hq, fun x hx => ownsRow_over (h.parts x hx) t hq, h.alone⟩

/-- The box takes what Apply gave; its rows are as they were. -/
theorem bx_store2 {x : World} {b : Nat} {a : Ads} {s : StV} (h : Bx x b a s) {lo : Nat} {u : StV} {a' : Ads} {LW : List (Lay BrV)} {LO LN : List (Lay PendV)} (r : Rows x lo u a' LW LO LN) (hu : MayP u) :
    Bx (nine x b (.int .i64 u.broker) (.int .i64 u.nextId) (.int .i64 u.nextSeq) (.int .i64 u.tx) (.slice a'.m u.ms.length a'.cm) (.slice a'.w u.waits.length a'.cw) (.slice a'.e u.ends.length a'.ce) (.slice a'.o u.open_.length a'.co) (.slice a'.n u.noes.length a'.cn)) b a' u ∧ Turn [b] x (nine x b (.int .i64 u.broker) (.int .i64 u.nextId) (.int .i64 u.nextSeq) (.int .i64 u.tx) (.slice a'.m u.ms.length a'.cm) (.slice a'.w u.waits.length a'.cw) (.slice a'.e u.ends.length a'.ce) (.slice a'.o u.open_.length a'.co) (.slice a'.n u.noes.length a'.cn)) ∧ Rows (nine x b (.int .i64 u.broker) (.int .i64 u.nextId) (.int .i64 u.nextSeq) (.int .i64 u.tx) (.slice a'.m u.ms.length a'.cm) (.slice a'.w u.waits.length a'.cw) (.slice a'.e u.ends.length a'.ce) (.slice a'.o u.open_.length a'.co) (.slice a'.n u.noes.length a'.cn)) lo u a' LW LO LN := by
  have T := nine_turn x b (.int .i64 u.broker) (.int .i64 u.nextId) (.int .i64 u.nextSeq) (.int .i64 u.tx) (.slice a'.m u.ms.length a'.cm) (.slice a'.w u.waits.length a'.cw) (.slice a'.e u.ends.length a'.ce) (.slice a'.o u.open_.length a'.co) (.slice a'.n u.noes.length a'.cn)
  exact ⟨(bx_store h r hu).1, T, r.past T ⟨_, _, h.head⟩⟩

theorem Bx.over {w w1 : World} {b q lo : Nat} {a : Ads} {s : StV} {LW : List (Lay BrV)} {LO LN : List (Lay PendV)} (h : Bx w b a s) (r : Rows w lo s a LW LO LN) (t : Turn [q] w w1) (hq : q < lo) (hb : b ≠ q) (hm : MayP s) : Bx w1 b a s :=
  ⟨t.heap h.head (by simp; exact hb), (r.over t hq).is hm.deep⟩

/-- Ints that may be written: a block of a law's own. -/
theorem cell_in {w : World} {q : Nat} {C : Array Value} {T : TypeId} {fr : Nat × Nat} (h : w.heap[q]? = some (.cells C T fr)) {j : Nat} {v : Value} (hv : C[j]? = some v) : w.cell? ⟨q, j, none⟩ = some v := by
  rw [cell_of_row _ _ _ _ _ _ h]
  exact hv

end Go.Proofs.YtjhlfjgfohoflaaGreat
