/-
  What the law BagAll keeps: a bag, the order's cell, a row with the bag written out.
-/
import Derived.Test.YtikbldnekehodaaIs
import Derived.Test.YtikbldnekehodaaBagO
namespace Go.Proofs.Ytikbldnekehodaa
open Go.RowKit

structure AllS (back : Bool) (w wr : World) (b c i : Nat) (v vl : Value) (K : List (Int × Int)) : Prop where
  lb : LB (keyO back) w wr b (fO c) v K
  kc : wr.cell? ⟨c, 0, none⟩ = some (.bool back)
  cb : c ≠ b
  own : ∀ k, v.ownBlock = some k → k ≠ c
  row : wr.ownsRow 0 3 1 vl (expK K).length (i64s (expK K))
  rl : ∀ k, vl.ownBlock = some k → w.heap.size ≤ k ∧ k ≠ b ∧ k ≠ c ∧ v.ownBlock ≠ some k
  tot : totK K ≤ 20 * (i : Int)
  few : K.length ≤ i
  bel : Below w.heap.size w wr

theorem AllS.quiet {back : Bool} {w wr w' : World} {b c i : Nat} {v vl : Value} {K : List (Int × Int)} (h : AllS back w wr b c i v vl K) (t : Turn [] wr w') : AllS back w w' b c i v vl K :=
  ⟨h.lb.quiet t, t.cell h.kc (by simp), h.cb, h.own, ownsRow_turn h.row t (fun _ _ => by simp), h.rl, h.tot, h.few, h.bel.trans (t.belowAll.mono h.bel.size)⟩

theorem AllS.add {back : Bool} {w wr wq : World} {b c i L' : Nat} {v vl vl' : Value} {K : List (Int × Int)} (h : AllS back w wr b c i v vl K) (t : Turn [] wr wq) {x n : Int} (hx : inI64 x) (hn : -19 ≤ n ∧ n ≤ 19) (hi : i ≤ 40)
    (row : wq.ownsRow 0 3 1 vl' L' (i64s (expK (addR (keyO back) K x n)))) (hown : ∀ k, vl'.ownBlock = some k → wr.heap.size ≤ k) :
    Calls Try.prog 15 #[.pointer (some ⟨b, 0, none⟩), .int .i64 x, .int .i64 n] wq fun e w' =>
      ∃ v', e = .returned (.int .i64 (max 0 (getK (keyO back) K (keyO back x) + n))) ∧ AllS back w w' b c (i + 1) v' vl' (addR (keyO back) K x n) := by
  have hg := getK_le_tot (keyO back) h.lb.pos (keyO back x)
  have ht := h.tot
  have hf := h.few
  have hq := h.lb.quiet t
  have hkc := t.cell h.kc (by simp)
  have hbq : Below w.heap.size w wq := h.bel.trans (t.belowAll.mono h.bel.size)
  have hL : L' = (expK (addR (keyO back) K x n)).length := by
    have := row.1
    rw [i64s_length] at this
    omega
  subst hL
  refine (lb_add (ok := fun w => w.cell? ⟨c, 0, none⟩ = some (.bool back)) hq hbq.size (by1_ok back c) (byO back) hkc hx (n := n) (by omega) (by omega) (by omega)).mono ?_
  rintro e w' ⟨v', rfl, h2, ho, t2⟩
  obtain ⟨-, m2, m3⟩ := addR_more K x n h.lb.srt h.lb.pos (κ := keyO back) (by omega) (by omega)
  have hc : c < wq.heap.size := World.block_lt_of_cell? _ _ hkc
  have hb : b < wr.heap.size := lt_of_heap h.lb.bag.head
  have hcr : c < wr.heap.size := World.block_lt_of_cell? _ _ h.kc
  have nl : ∀ k, k ≠ b → v.ownBlock ≠ some k → k ∉ b :: v.ownBlock.toList := fun k h1 h3 hm => by
    rcases List.mem_cons.1 hm with e | hm
    · exact h1 e
    · exact h3 (Option.mem_toList.1 hm)
  have ov : ∀ k, v.ownBlock = some k → k < wr.heap.size := fun k hk => own_lt h.lb.bag.row hk
  refine ⟨v', rfl, ⟨h2, t2.cell hkc (nl _ h.cb (fun e => h.own _ e rfl)), h.cb, fun k hk => ?_, ownsRow_turn row t2 (fun k hk => nl _ (by have := hown k hk; omega) (fun e => by have := hown k hk; have := ov k e; omega)), fun k hk => ⟨?_, ?_, ?_, ?_⟩, ?_, ?_, hbq.trans (t2.below hq.low hbq.size)⟩⟩
  · rcases ho with e | e
    · rw [e] at hk; exact h.own k hk
    · have := e k hk; omega
  · have := hown k hk
    have := h.bel.size
    omega
  · have := hown k hk; omega
  · have := hown k hk; omega
  · intro e
    have h1 := hown k hk
    rcases ho with e2 | e2
    · rw [e2] at e
      have := ov k e
      omega
    · have h3 := e2 k e
      have h4 := own_lt row hk
      omega
  · rw [m2]
    omega
  · split at m3 <;> split at m3 <;> omega

end Go.Proofs.Ytikbldnekehodaa
