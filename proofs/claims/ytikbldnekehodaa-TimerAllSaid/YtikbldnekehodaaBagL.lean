/-
  A bag that a law keeps: it stands above the law's world, rising by a key.
-/
import Derived.Test.YtikbldnekehodaaBagR
import Derived.Test.YtikbldnekehodaaIl
namespace Go.Proofs.Ytikbldnekehodaa
open Go.RowKit

/-- The law's bag: its block, its kinds' slice, what it has. -/
structure LB (κ : Int → Int) (w wr : World) (b : Nat) (fv v : Value) (K : List (Int × Int)) : Prop where
  bag : BagI wr b fv v K
  srt : Srt κ K
  pos : Pos K
  b : w.heap.size ≤ b
  v : ∀ k, v.ownBlock = some k → w.heap.size ≤ k

theorem LB.turn {κ : Int → Int} {w wr w' : World} {b : Nat} {fv v : Value} {K : List (Int × Int)} {l : List Nat} (h : LB κ w wr b fv v K) (t : Turn l wr w') (hb : b ∉ l) (hv : ∀ k, v.ownBlock = some k → k ∉ l) : LB κ w w' b fv v K :=
  ⟨h.bag.turn t hb hv, h.srt, h.pos, h.b, h.v⟩

theorem LB.quiet {κ : Int → Int} {w wr w' : World} {b : Nat} {fv v : Value} {K : List (Int × Int)} (h : LB κ w wr b fv v K) (t : Turn [] wr w') : LB κ w w' b fv v K := h.turn t (by simp) (fun _ _ => by simp)

/-- Add, and what holds then. -/
theorem lb_add {κ : Int → Int} {w wr : World} {b kc : Nat} {cap : Array Value} {v : Value} {K : List (Int × Int)} {c : Int → Int → Int} {ok : World → Prop} (h : LB κ w wr b (.func (.func kc) #[] cap) v K) (hw : w.heap.size ≤ wr.heap.size) (hc : CmpOk kc cap c ok) (hk : ByKey κ c) (hok : ok wr) {x : Int} (hx : inI64 x) {n : Int} (hn : -1000000 ≤ n ∧ n ≤ 1000000) (hfew : K.length ≤ 999) (hb : max 0 (getK κ K (κ x) + n) ≤ 1000000) :
    Calls Try.prog 15 #[.pointer (some ⟨b, 0, none⟩), .int .i64 x, .int .i64 n] wr fun e w' =>
      ∃ v', e = .returned (.int .i64 (max 0 (getK κ K (κ x) + n))) ∧ LB κ w w' b (.func (.func kc) #[] cap) v' (addR κ K x n) ∧ (v'.ownBlock = v.ownBlock ∨ ∀ k, v'.ownBlock = some k → wr.heap.size ≤ k) ∧ Turn (b :: v.ownBlock.toList) wr w' := by
  refine (add_calls h.bag hc hk hok h.srt hx (n := n) (by unfold inI64; omega) hfew).mono ?_
  rintro e w' ⟨v', rfl, h2, ho, t⟩
  obtain ⟨e1, e2⟩ := addK_eq (κ := κ) K x n
  rw [e1] at h2
  obtain ⟨-, g2⟩ := addR_get K x n h.srt h.pos hn.2
  obtain ⟨p1, -, -⟩ := addR_more K x n h.srt h.pos hn.2 hb
  refine ⟨v', by rw [e2, g2], ⟨h2, addR_srt K x n h.srt, p1, h.b, fun k hk => ?_⟩, ho, t⟩
  rcases ho with e | e
  · rw [e] at hk; exact h.v k hk
  · exact Nat.le_trans hw (e k hk)

theorem lb_count {κ : Int → Int} {w wr : World} {b kc : Nat} {cap : Array Value} {v : Value} {K : List (Int × Int)} {c : Int → Int → Int} {ok : World → Prop} (h : LB κ w wr b (.func (.func kc) #[] cap) v K) (hc : CmpOk kc cap c ok) (hk : ByKey κ c) (hok : ok wr) {x : Int} (hx : inI64 x) :
    Calls Try.prog 16 #[.pointer (some ⟨b, 0, none⟩), .int .i64 x] wr fun e w' => e = .returned (.int .i64 (getK κ K (κ x))) ∧ Turn [] wr w' :=
  count_calls h.bag hc hk hok h.srt hx

theorem lb_len {κ : Int → Int} {w wr : World} {b : Nat} {fv v : Value} {K : List (Int × Int)} (h : LB κ w wr b fv v K) (ht : totK K ≤ 9223372036854775807) :
    Calls Try.prog 17 #[.pointer (some ⟨b, 0, none⟩)] wr fun e w' => e = .returned (.int .i64 (totK K)) ∧ Turn [] wr w' := by
  rw [← sumK_tot h.pos ht]
  exact lenI h.bag

theorem LB.low {κ : Int → Int} {w wr : World} {b : Nat} {fv v : Value} {K : List (Int × Int)} (h : LB κ w wr b fv v K) : ∀ k ∈ b :: v.ownBlock.toList, w.heap.size ≤ k := fun k hk => by
  rcases List.mem_cons.1 hk with rfl | hk
  · exact h.b
  · exact h.v k (Option.mem_toList.1 hk)

/-- A new one. -/
theorem LB.new {κ : Int → Int} {w wr : World} {b : Nat} {fv : Value} (h : BagI wr b fv (.slice none 0 0) []) (hb : w.heap.size ≤ b) : LB κ w wr b fv (.slice none 0 0) [] :=
  ⟨h, by simp [Srt], fun p hp => by simp at hp, hb, by intro k hk; cases hk⟩

end Go.Proofs.Ytikbldnekehodaa
