/-
  A timer of numbers that is a law's own: what stands below the law's first world stays.
-/
import Derived.Test.YtikbldnekehodaaTimA
namespace Go.Proofs.Ytikbldnekehodaa.T
open Go.RowKit

structure LT (w wr : World) (b : Nat) (most ticks : Int) (v : Value) (K : List (Int × Int)) : Prop where
  tim : TimI wr b most ticks v K
  b : w.heap.size ≤ b
  v : ∀ k, v.ownBlock = some k → w.heap.size ≤ k
  bel : Below w.heap.size w wr

theorem LT.quiet {w wr w' : World} {b : Nat} {most ticks : Int} {v : Value} {K : List (Int × Int)} (h : LT w wr b most ticks v K) (t : Turn [] wr w') : LT w w' b most ticks v K :=
  ⟨h.tim.turn t (by simp) (fun _ _ => by simp), h.b, h.v, h.bel.trans (t.belowAll.mono h.bel.size)⟩

theorem LT.step {w wr w' : World} {b : Nat} {most ticks ticks' : Int} {v v' : Value} {K K' : List (Int × Int)} (h : LT w wr b most ticks v K) (hb : TimI w' b most ticks' v' K')
    (ho : v'.ownBlock = v.ownBlock ∨ ∀ k, v'.ownBlock = some k → wr.heap.size ≤ k) (t : Turn (b :: v.ownBlock.toList) wr w') : LT w w' b most ticks' v' K' := by
  refine ⟨hb, h.b, fun k hk => ?_, h.bel.trans (t.below (fun k hk => ?_) h.bel.size)⟩
  · rcases ho with e | e
    · rw [e] at hk; exact h.v k hk
    · exact Nat.le_trans h.bel.size (e k hk)
  · rcases List.mem_cons.1 hk with rfl | hk
    · exact h.b
    · exact h.v k (Option.mem_toList.1 hk)

theorem LT.new {w wr w' : World} {most : Int} (hb : Below w.heap.size w wr) (h : TimI w' wr.heap.size most 0 (.slice none 0 0) []) (t : Turn [] wr w') : LT w w' wr.heap.size most 0 (.slice none 0 0) [] :=
  ⟨h, hb.size, (by intro k hk; cases hk), hb.trans (t.belowAll.mono hb.size)⟩

/-- A row of one's answer, laid out. -/
theorem sil_slice {w : World} {e : TypeId} {sv : Value} {xs : List Value} (h : w.ownsRow 0 e 1 sv xs.length xs) : ∃ ao c, sv = .slice ao xs.length c ∧ ∀ j u, xs[j]? = some u → ∃ g, ao = some ⟨g, 0, none⟩ ∧ w.cell? ⟨g, j, none⟩ = some u := by
  rcases h.2 with ⟨rfl, h0⟩ | ⟨g, cap, cur, rfl, -⟩
  · refine ⟨none, 0, by rw [h0], fun j u hj => ?_⟩
    have : xs = [] := List.eq_nil_of_length_eq_zero h0
    rw [this] at hj
    simp at hj
  · exact ⟨_, cap, rfl, fun j u hj => ⟨g, rfl, by have := h.cells (g := g) rfl j u hj; rwa [Addr.add_lit, Nat.zero_add] at this⟩⟩

theorem lt_tick {w wr : World} {b : Nat} {most ticks : Int} {v : Value} {K : List (Int × Int)} (h : LT w wr b most ticks v K) (ht : ticks ≤ 999999) :
    Calls Try.prog 24 #[.pointer (some ⟨b, 0, none⟩)] wr fun e w' => ∃ ao c, e = .returned (.slice ao (silK most (ticks + 1) K).length c) ∧
      (∀ j u, (silK most (ticks + 1) K)[j]? = some u → ∃ g, ao = some ⟨g, 0, none⟩ ∧ w.heap.size ≤ g ∧ w'.cell? ⟨g, j, none⟩ = some u) ∧ LT w w' b most (ticks + 1) v K := by
  refine (tick_calls h.tim ht).mono ?_
  rintro e w' ⟨sv, rfl, hr, ho, h2, q⟩
  obtain ⟨ao, c, rfl, hc⟩ := sil_slice hr
  refine ⟨ao, c, rfl, fun j u hj => ?_, h.step h2 (.inl rfl) (q.mono (by intro i hi; exact .inl (by rw [List.mem_singleton.1 hi]; simp)))⟩
  obtain ⟨g, rfl, hg⟩ := hc j u hj
  exact ⟨g, rfl, Nat.le_trans h.bel.size (ho g rfl), hg⟩

theorem lt_heard_new {w wr : World} {b : Nat} {most ticks : Int} {v : Value} {K : List (Int × Int)} (h : LT w wr b most ticks v K) (x : Int) (hfew : K.length ≤ 999) {m : Nat} (hm : m ≤ K.length)
    (hlo : ∀ i (hi : i < K.length), i < m → cmpZ K[i].1 x < 0) (hhi : ∀ i (hi : i < K.length), m ≤ i → 0 ≤ cmpZ K[i].1 x) (hf : ¬ (m < K.length ∧ cmpZ (K.getD m (0, 0)).1 x = 0)) :
    Calls Try.prog 22 #[.pointer (some ⟨b, 0, none⟩), .int .i64 x] wr fun e w' => ∃ v', e = .returned (.bool true) ∧ LT w w' b most ticks v' (insK K m (x, ticks)) := by
  refine (heard_new h.tim x hfew hm hlo hhi hf).mono ?_
  rintro e w' ⟨v', rfl, h2, ho, q⟩
  exact ⟨v', rfl, h.step h2 ho q⟩

theorem lt_heard_is {w wr : World} {b : Nat} {most ticks : Int} {v : Value} {K : List (Int × Int)} (h : LT w wr b most ticks v K) (x : Int) {m : Nat} (hm : m < K.length)
    (hlo : ∀ i (hi : i < K.length), i < m → cmpZ K[i].1 x < 0) (hhi : ∀ i (hi : i < K.length), m ≤ i → 0 ≤ cmpZ K[i].1 x) (hf : cmpZ (K.getD m (0, 0)).1 x = 0) :
    Calls Try.prog 22 #[.pointer (some ⟨b, 0, none⟩), .int .i64 x] wr fun e w' => e = .returned (.bool false) ∧ LT w w' b most ticks v (K.set m ((K.getD m (0, 0)).1, ticks)) := by
  refine (heard_is h.tim x hm hlo hhi hf).mono ?_
  rintro e w' ⟨rfl, h2, q⟩
  exact ⟨rfl, h.step h2 (.inl rfl) q⟩

theorem lt_age_is {w wr : World} {b : Nat} {most ticks : Int} {v : Value} {K : List (Int × Int)} (h : LT w wr b most ticks v K) (x : Int) {m : Nat} (hm : m < K.length)
    (hlo : ∀ i (hi : i < K.length), i < m → cmpZ K[i].1 x < 0) (hhi : ∀ i (hi : i < K.length), m ≤ i → 0 ≤ cmpZ K[i].1 x) (hf : cmpZ (K.getD m (0, 0)).1 x = 0) :
    Calls Try.prog 26 #[.pointer (some ⟨b, 0, none⟩), .int .i64 x] wr fun e w' => e = .returned (.int .i64 (ticks - (K.getD m (0, 0)).2)) ∧ LT w w' b most ticks v K := by
  refine (age_is h.tim x hm hlo hhi hf).mono ?_
  rintro e w' ⟨rfl, q⟩
  exact ⟨rfl, h.quiet q⟩

theorem lt_age_none {w wr : World} {b : Nat} {most ticks : Int} {v : Value} {K : List (Int × Int)} (h : LT w wr b most ticks v K) (x : Int) {m : Nat} (hm : m ≤ K.length)
    (hlo : ∀ i (hi : i < K.length), i < m → cmpZ K[i].1 x < 0) (hhi : ∀ i (hi : i < K.length), m ≤ i → 0 ≤ cmpZ K[i].1 x) (hf : ¬ (m < K.length ∧ cmpZ (K.getD m (0, 0)).1 x = 0)) :
    Calls Try.prog 26 #[.pointer (some ⟨b, 0, none⟩), .int .i64 x] wr fun e w' => e = .returned (.int .i64 (-1)) ∧ LT w w' b most ticks v K := by
  refine (age_none h.tim x hm hlo hhi hf).mono ?_
  rintro e w' ⟨rfl, q⟩
  exact ⟨rfl, h.quiet q⟩

theorem lt_gone_is {w wr : World} {b : Nat} {most ticks : Int} {v : Value} {K : List (Int × Int)} (h : LT w wr b most ticks v K) (x : Int) {m : Nat} (hm : m < K.length)
    (hlo : ∀ i (hi : i < K.length), i < m → cmpZ K[i].1 x < 0) (hhi : ∀ i (hi : i < K.length), m ≤ i → 0 ≤ cmpZ K[i].1 x) (hf : cmpZ (K.getD m (0, 0)).1 x = 0) :
    Calls Try.prog 23 #[.pointer (some ⟨b, 0, none⟩), .int .i64 x] wr fun e w' => ∃ v', e = .returned (.bool true) ∧ LT w w' b most ticks v' (delK K m) := by
  refine (gone_is h.tim x hm hlo hhi hf).mono ?_
  rintro e w' ⟨v', rfl, h2, ho, q⟩
  exact ⟨v', rfl, h.step h2 (.inl ho) q⟩

theorem lt_gone_none {w wr : World} {b : Nat} {most ticks : Int} {v : Value} {K : List (Int × Int)} (h : LT w wr b most ticks v K) (x : Int) {m : Nat} (hm : m ≤ K.length)
    (hlo : ∀ i (hi : i < K.length), i < m → cmpZ K[i].1 x < 0) (hhi : ∀ i (hi : i < K.length), m ≤ i → 0 ≤ cmpZ K[i].1 x) (hf : ¬ (m < K.length ∧ cmpZ (K.getD m (0, 0)).1 x = 0)) :
    Calls Try.prog 23 #[.pointer (some ⟨b, 0, none⟩), .int .i64 x] wr fun e w' => e = .returned (.bool false) ∧ LT w w' b most ticks v K := by
  refine (gone_none h.tim x hm hlo hhi hf).mono ?_
  rintro e w' ⟨rfl, q⟩
  exact ⟨rfl, h.quiet q⟩

theorem lt_has {w wr : World} {b : Nat} {most ticks : Int} {v : Value} {K : List (Int × Int)} (h : LT w wr b most ticks v K) (x : Int) {m : Nat} (hm : m ≤ K.length)
    (hlo : ∀ i (hi : i < K.length), i < m → cmpZ K[i].1 x < 0) (hhi : ∀ i (hi : i < K.length), m ≤ i → 0 ≤ cmpZ K[i].1 x) :
    Calls Try.prog 27 #[.pointer (some ⟨b, 0, none⟩), .int .i64 x] wr fun e w' => e = .returned (.bool (decide (m < K.length) && (cmpZ (K.getD m (0, 0)).1 x == 0))) ∧ LT w w' b most ticks v K := by
  refine (has_calls h.tim x hm hlo hhi).mono ?_
  rintro e w' ⟨rfl, q⟩
  exact ⟨rfl, h.quiet q⟩

end Go.Proofs.Ytikbldnekehodaa.T
