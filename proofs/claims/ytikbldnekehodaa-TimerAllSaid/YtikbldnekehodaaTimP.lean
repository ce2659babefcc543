/-
  A law's timer of numbers, where the ones are split at the one asked about.
-/
import Derived.Test.YtikbldnekehodaaTimL
namespace Go.Proofs.Ytikbldnekehodaa.T
open Go.RowKit

theorem lo_app {A R : List (Int × Int)} {x : Int} (h : ∀ p ∈ A, cmpZ p.1 x < 0) : ∀ i (hi : i < (A ++ R).length), i < A.length → cmpZ (A ++ R)[i].1 x < 0 := by
  intro i hi hia
  rw [List.getElem_append_left hia]
  exact h _ (List.getElem_mem hia)

theorem hi_app {A R : List (Int × Int)} {x : Int} (h : ∀ p ∈ R, 0 ≤ cmpZ p.1 x) : ∀ i (hi : i < (A ++ R).length), A.length ≤ i → 0 ≤ cmpZ (A ++ R)[i].1 x := by
  intro i hi hia
  rw [List.getElem_append_right hia]
  exact h _ (List.getElem_mem _)

theorem ins_app (A B : List (Int × Int)) (p : Int × Int) : insK (A ++ B) A.length p = A ++ p :: B := by simp [insK]

theorem set_app (A B : List (Int × Int)) (q p : Int × Int) : (A ++ q :: B).set A.length p = A ++ p :: B := by simp

theorem get_app (A B : List (Int × Int)) (q : Int × Int) : (A ++ q :: B).getD A.length (0, 0) = q := by simp [List.getD]

theorem ge_of {R : List (Int × Int)} {x : Int} (hB : ∀ p ∈ R, 0 < cmpZ p.1 x) : ∀ p ∈ R, 0 ≤ cmpZ p.1 x := fun p hp => Int.le_of_lt (hB p hp)

theorem ge_of2 {R : List (Int × Int)} {x y : Int} (hx : cmpZ x x = 0) (hB : ∀ p ∈ R, 0 < cmpZ p.1 x) : ∀ p ∈ (x, y) :: R, 0 ≤ cmpZ p.1 x := by
  intro p hp
  rcases List.mem_cons.1 hp with rfl | h
  · show 0 ≤ cmpZ x x
    rw [hx]
    omega
  · exact Int.le_of_lt (hB p h)

theorem not_there {A B : List (Int × Int)} {x : Int} (hB : ∀ p ∈ B, 0 < cmpZ p.1 x) : ¬ (A.length < (A ++ B).length ∧ cmpZ ((A ++ B).getD A.length (0, 0)).1 x = 0) := by
  rintro ⟨h1, h2⟩
  cases B with
  | nil => simp at h1
  | cons q B =>
    rw [get_app] at h2
    have := hB q (by simp)
    omega

theorem p_heard_new {w wr : World} {b : Nat} {most ticks : Int} {v : Value} {A B : List (Int × Int)} (x : Int) (h : LT w wr b most ticks v (A ++ B)) (hfew : (A ++ B).length ≤ 999) (hA : ∀ p ∈ A, cmpZ p.1 x < 0) (hB : ∀ p ∈ B, 0 < cmpZ p.1 x) :
    Calls Try.prog 22 #[.pointer (some ⟨b, 0, none⟩), .int .i64 x] wr fun e w' => ∃ v', e = .returned (.bool true) ∧ (v'.ownBlock = v.ownBlock ∨ ∀ k, v'.ownBlock = some k → wr.heap.size ≤ k) ∧ Turn (b :: v.ownBlock.toList) wr w' ∧ LT w w' b most ticks v' (A ++ (x, ticks) :: B) := by
  refine (heard_new h.tim x hfew (m := A.length) (by simp) (lo_app hA) (hi_app (ge_of hB)) (not_there hB)).mono ?_
  rintro e w' ⟨v', rfl, o, ho, q⟩
  rw [ins_app] at o
  exact ⟨v', rfl, ho, q, h.step o ho q⟩

theorem p_heard_is {w wr : World} {b : Nat} {most ticks y : Int} {v : Value} {A B : List (Int × Int)} (x : Int) (hx : cmpZ x x = 0) (h : LT w wr b most ticks v (A ++ (x, y) :: B)) (hA : ∀ p ∈ A, cmpZ p.1 x < 0) (hB : ∀ p ∈ B, 0 < cmpZ p.1 x) :
    Calls Try.prog 22 #[.pointer (some ⟨b, 0, none⟩), .int .i64 x] wr fun e w' => e = .returned (.bool false) ∧ Turn (b :: v.ownBlock.toList) wr w' ∧ LT w w' b most ticks v (A ++ (x, ticks) :: B) := by
  refine (heard_is h.tim x (m := A.length) (by simp) (lo_app hA) (hi_app (ge_of2 hx hB)) (by rw [get_app]; exact hx)).mono ?_
  rintro e w' ⟨rfl, o, q⟩
  rw [get_app, set_app] at o
  exact ⟨rfl, q, h.step o (.inl rfl) q⟩

theorem p_age_is {w wr : World} {b : Nat} {most ticks y : Int} {v : Value} {A B : List (Int × Int)} (x : Int) (hx : cmpZ x x = 0) (h : LT w wr b most ticks v (A ++ (x, y) :: B)) (hA : ∀ p ∈ A, cmpZ p.1 x < 0) (hB : ∀ p ∈ B, 0 < cmpZ p.1 x) :
    Calls Try.prog 26 #[.pointer (some ⟨b, 0, none⟩), .int .i64 x] wr fun e w' => e = .returned (.int .i64 (ticks - y)) ∧ Turn [] wr w' := by
  refine (age_is h.tim x (m := A.length) (by simp) (lo_app hA) (hi_app (ge_of2 hx hB)) (by rw [get_app]; exact hx)).mono ?_
  rintro e w' ⟨rfl, q⟩
  rw [get_app]
  exact ⟨rfl, q⟩

theorem p_age_none {w wr : World} {b : Nat} {most ticks : Int} {v : Value} {A B : List (Int × Int)} (x : Int) (h : LT w wr b most ticks v (A ++ B)) (hA : ∀ p ∈ A, cmpZ p.1 x < 0) (hB : ∀ p ∈ B, 0 < cmpZ p.1 x) :
    Calls Try.prog 26 #[.pointer (some ⟨b, 0, none⟩), .int .i64 x] wr fun e w' => e = .returned (.int .i64 (-1)) ∧ Turn [] wr w' := by
  refine (age_none h.tim x (m := A.length) (by simp) (lo_app hA) (hi_app (ge_of hB)) (not_there hB)).mono ?_
  rintro e w' ⟨rfl, q⟩
  exact ⟨rfl, q⟩

theorem del_app (A B : List (Int × Int)) (q : Int × Int) : delK (A ++ q :: B) A.length = A ++ B := by simp [delK]

theorem p_gone_is {w wr : World} {b : Nat} {most ticks y : Int} {v : Value} {A B : List (Int × Int)} (x : Int) (hx : cmpZ x x = 0) (h : LT w wr b most ticks v (A ++ (x, y) :: B)) (hA : ∀ p ∈ A, cmpZ p.1 x < 0) (hB : ∀ p ∈ B, 0 < cmpZ p.1 x) :
    Calls Try.prog 23 #[.pointer (some ⟨b, 0, none⟩), .int .i64 x] wr fun e w' => ∃ v', e = .returned (.bool true) ∧ v'.ownBlock = v.ownBlock ∧ Turn (b :: v.ownBlock.toList) wr w' ∧ LT w w' b most ticks v' (A ++ B) := by
  refine (gone_is h.tim x (m := A.length) (by simp) (lo_app hA) (hi_app (ge_of2 hx hB)) (by rw [get_app]; exact hx)).mono ?_
  rintro e w' ⟨v', rfl, o, ho, q⟩
  rw [del_app] at o
  exact ⟨v', rfl, ho, q, h.step o (.inl ho) q⟩

theorem p_gone_none {w wr : World} {b : Nat} {most ticks : Int} {v : Value} {A B : List (Int × Int)} (x : Int) (h : LT w wr b most ticks v (A ++ B)) (hA : ∀ p ∈ A, cmpZ p.1 x < 0) (hB : ∀ p ∈ B, 0 < cmpZ p.1 x) :
    Calls Try.prog 23 #[.pointer (some ⟨b, 0, none⟩), .int .i64 x] wr fun e w' => e = .returned (.bool false) ∧ Turn [] wr w' := by
  refine (gone_none h.tim x (m := A.length) (by simp) (lo_app hA) (hi_app (ge_of hB)) (not_there hB)).mono ?_
  rintro e w' ⟨rfl, q⟩
  exact ⟨rfl, q⟩

theorem p_has_is {w wr : World} {b : Nat} {most ticks y : Int} {v : Value} {A B : List (Int × Int)} (x : Int) (hx : cmpZ x x = 0) (h : LT w wr b most ticks v (A ++ (x, y) :: B)) (hA : ∀ p ∈ A, cmpZ p.1 x < 0) (hB : ∀ p ∈ B, 0 < cmpZ p.1 x) :
    Calls Try.prog 27 #[.pointer (some ⟨b, 0, none⟩), .int .i64 x] wr fun e w' => e = .returned (.bool true) ∧ Turn [] wr w' := by
  refine (has_calls h.tim x (m := A.length) (by simp) (lo_app hA) (hi_app (ge_of2 hx hB))).mono ?_
  rintro e w' ⟨rfl, q⟩
  rw [get_app]
  exact ⟨by simp [hx], q⟩

theorem p_has_none {w wr : World} {b : Nat} {most ticks : Int} {v : Value} {A B : List (Int × Int)} (x : Int) (h : LT w wr b most ticks v (A ++ B)) (hA : ∀ p ∈ A, cmpZ p.1 x < 0) (hB : ∀ p ∈ B, 0 < cmpZ p.1 x) :
    Calls Try.prog 27 #[.pointer (some ⟨b, 0, none⟩), .int .i64 x] wr fun e w' => e = .returned (.bool false) ∧ Turn [] wr w' := by
  refine (has_calls h.tim x (m := A.length) (by simp) (lo_app hA) (hi_app (ge_of hB))).mono ?_
  rintro e w' ⟨rfl, q⟩
  rw [found_no (not_there hB)]
  exact ⟨rfl, q⟩

end Go.Proofs.Ytikbldnekehodaa.T
