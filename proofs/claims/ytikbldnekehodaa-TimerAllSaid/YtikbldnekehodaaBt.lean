/-
  A bag of texts and a timer of int64s of the call's own, side by side: what begun does with them.
-/
import Derived.Test.YtikbldnekehodaaCmpS
import Derived.Test.YtikbldnekehodaaLTimA
namespace Go.Proofs.Ytikbldnekehodaa
open Go.RowKit

structure BT (w wr : World) (b t : Nat) (v u : Value) (K : List (ByteArray × Int)) (ticks : Int) (J : List (Int × Int)) : Prop where
  bag : S.BagI wr b (.func (.func 33) #[] #[]) v K
  tim : L.TimI wr t 2 ticks u J
  lb : w.heap.size ≤ b
  lt : w.heap.size ≤ t
  lv : ∀ k, v.ownBlock = some k → w.heap.size ≤ k
  lu : ∀ k, u.ownBlock = some k → w.heap.size ≤ k
  bt : b ≠ t
  vt : v.ownBlock ≠ some t
  ub : u.ownBlock ≠ some b
  uv : ∀ k, v.ownBlock = some k → u.ownBlock ≠ some k
  bel : Below w.heap.size w wr

theorem BT.quiet {w wr w' : World} {b t : Nat} {v u : Value} {K : List (ByteArray × Int)} {ticks : Int} {J : List (Int × Int)} (h : BT w wr b t v u K ticks J) (q : Turn [] wr w') : BT w w' b t v u K ticks J :=
  ⟨h.bag.turn q (by simp) (fun _ _ => by simp), h.tim.turn q (by simp) (fun _ _ => by simp), h.lb, h.lt, h.lv, h.lu, h.bt, h.vt, h.ub, h.uv, h.bel.trans (q.belowAll.mono h.bel.size)⟩

theorem BT.bagStep {w wr w' : World} {b t : Nat} {v u v' : Value} {K K' : List (ByteArray × Int)} {ticks : Int} {J : List (Int × Int)} (h : BT w wr b t v u K ticks J)
    (hb : S.BagI w' b (.func (.func 33) #[] #[]) v' K') (ho : v'.ownBlock = v.ownBlock ∨ ∀ k, v'.ownBlock = some k → wr.heap.size ≤ k) (q : Turn (b :: v.ownBlock.toList) wr w') : BT w w' b t v' u K' ticks J := by
  have htl := lt_of_heap h.tim.head
  refine ⟨hb, h.tim.turn q ?_ (fun k hk => ?_), h.lb, h.lt, fun k hk => ?_, h.lu, h.bt, ?_, h.ub, fun k hk => ?_, h.bel.trans (q.below (fun k hk => ?_) h.bel.size)⟩
  · intro hm
    rcases List.mem_cons.1 hm with e | hm
    · exact h.bt e.symm
    · exact h.vt (Option.mem_toList.1 hm)
  · intro hm
    rcases List.mem_cons.1 hm with e | hm
    · exact h.ub (by rw [hk, e])
    · exact h.uv k (Option.mem_toList.1 hm) hk
  · rcases ho with e | e
    · rw [e] at hk; exact h.lv k hk
    · exact Nat.le_trans h.bel.size (e k hk)
  · intro e1
    rcases ho with e | e
    · rw [e] at e1; exact h.vt e1
    · have := e t e1; omega
  · intro e1
    rcases ho with e | e
    · rw [e] at hk; exact h.uv k hk e1
    · have := e k hk
      have := (h.tim.row.lt _ e1).2
      omega
  · rcases List.mem_cons.1 hk with rfl | hk
    · exact h.lb
    · exact h.lv k (Option.mem_toList.1 hk)

theorem BT.timStep {w wr w' : World} {b t : Nat} {v u u' : Value} {K : List (ByteArray × Int)} {ticks ticks' : Int} {J J' : List (Int × Int)} (h : BT w wr b t v u K ticks J)
    (hb : L.TimI w' t 2 ticks' u' J') (ho : u'.ownBlock = u.ownBlock ∨ ∀ k, u'.ownBlock = some k → wr.heap.size ≤ k) (q : Turn (t :: u.ownBlock.toList) wr w') : BT w w' b t v u' K ticks' J' := by
  have htl := lt_of_heap h.bag.head
  refine ⟨h.bag.turn q ?_ (fun k hk => ?_), hb, h.lb, h.lt, h.lv, fun k hk => ?_, h.bt, h.vt, ?_, fun k hk => ?_, h.bel.trans (q.below (fun k hk => ?_) h.bel.size)⟩
  · intro hm
    rcases List.mem_cons.1 hm with e | hm
    · exact h.bt e
    · exact h.ub (Option.mem_toList.1 hm)
  · intro hm
    rcases List.mem_cons.1 hm with e | hm
    · exact h.vt (by rw [hk, e])
    · exact h.uv k hk (Option.mem_toList.1 hm)
  · rcases ho with e | e
    · rw [e] at hk; exact h.lu k hk
    · exact Nat.le_trans h.bel.size (e k hk)
  · intro e1
    rcases ho with e | e
    · rw [e] at e1; exact h.ub e1
    · have := e b e1; omega
  · intro e1
    rcases ho with e | e
    · rw [e] at e1; exact h.uv k hk e1
    · have := e k e1
      have := (h.bag.row.lt _ hk).2
      omega
  · rcases List.mem_cons.1 hk with rfl | hk
    · exact h.lt
    · exact h.lu k (Option.mem_toList.1 hk)

def nX : ByteArray := ⟨#[120]⟩
def nA : ByteArray := ⟨#[97]⟩

theorem cmp_XX : cmpS nX nX = 0 := by kernel_rfl
theorem cmp_AX : cmpS nA nX = -1 := by kernel_rfl
theorem cmp_XA : cmpS nX nA = 1 := by kernel_rfl

theorem bt_add1 {w wr : World} {b t : Nat} {v u : Value} {ticks : Int} {J : List (Int × Int)} (h : BT w wr b t v u [] ticks J) :
    Calls Try.prog 34 #[.pointer (some ⟨b, 0, none⟩), .string nX, .int .i64 2] wr fun e w' => ∃ v', e = .returned (.int .i64 2) ∧ BT w w' b t v' u [(nX, 2)] ticks J := by
  refine (S.addI_new (m := 0) h.bag cmpS_ok trivial trivial (by omega) (by omega) (by simp) (Nat.zero_le _) (by intro i hi; simp at hi) (by intro i hi; simp at hi) (by simp)).mono ?_
  rintro e w' ⟨v', rfl, h2, ho, q⟩
  exact ⟨v', rfl, h.bagStep h2 ho q⟩

theorem bt_add2 {w wr : World} {b t : Nat} {v u : Value} {ticks : Int} {J : List (Int × Int)} (h : BT w wr b t v u [(nX, 2)] ticks J) :
    Calls Try.prog 34 #[.pointer (some ⟨b, 0, none⟩), .string nA, .int .i64 1] wr fun e w' => ∃ v', e = .returned (.int .i64 1) ∧ BT w w' b t v' u [(nA, 1), (nX, 2)] ticks J := by
  refine (S.addI_new (m := 0) h.bag cmpS_ok trivial trivial (by omega) (by omega) (by simp) (Nat.zero_le _) (by intro i hi hm; omega) (fun i hi _ => by
    have hi0 : i = 0 := by simpa using hi
    subst hi0
    show cmpS nA nX ≤ 0
    rw [cmp_AX]
    omega) (by
    rintro ⟨-, e⟩
    have e' : cmpS nA nX = 0 := e
    rw [cmp_AX] at e'
    cases e')).mono ?_
  rintro e w' ⟨v', rfl, h2, ho, q⟩
  exact ⟨v', rfl, h.bagStep h2 ho q⟩

theorem bt_add3 {w wr : World} {b t : Nat} {v u : Value} {ticks : Int} {J : List (Int × Int)} (h : BT w wr b t v u [(nA, 1), (nX, 2)] ticks J) :
    Calls Try.prog 34 #[.pointer (some ⟨b, 0, none⟩), .string nX, .int .i64 (-5)] wr fun e w' => ∃ v', e = .returned (.int .i64 0) ∧ BT w w' b t v' u [(nA, 1)] ticks J := by
  refine (S.addI_found (m := 1) h.bag cmpS_ok trivial trivial (n := -5) (by unfold S.inI64; omega) (by simp) (fun i hi hm => by
    have hi0 : i = 0 := by omega
    subst hi0
    show 0 < cmpS nX nA
    rw [cmp_XA]
    omega) (fun i hi hm => by
    have hi0 : i = 1 := by simp at hi; omega
    subst hi0
    show cmpS nX nX ≤ 0
    rw [cmp_XX]
    omega) (by show cmpS nX nX = 0; exact cmp_XX)).mono ?_
  rintro e w' ⟨v', rfl, h2, ho, q⟩
  exact ⟨v', rfl, h.bagStep h2 (.inl ho) q⟩

theorem bt_at {w wr : World} {b t : Nat} {v u : Value} {ticks : Int} {J : List (Int × Int)} (h : BT w wr b t v u [(nA, 1), (nX, 2)] ticks J) :
    Calls Try.prog 41 #[.pointer (some ⟨b, 0, none⟩), .int .i64 1] wr fun e w' => e = .returned (.tuple #[.string nX, .bool true]) ∧ w' = wr := by
  refine (S.atI h.bag 1 (by omega)).mono ?_
  rintro e w' ⟨rfl, rfl⟩
  exact ⟨rfl, rfl⟩

theorem bt_len {w wr : World} {b t : Nat} {v u : Value} {ticks : Int} {J : List (Int × Int)} (h : BT w wr b t v u [(nA, 1)] ticks J) :
    Calls Try.prog 36 #[.pointer (some ⟨b, 0, none⟩)] wr fun e w' => e = .returned (.int .i64 1) ∧ Turn [] wr w' := by
  refine (S.lenI h.bag).mono ?_
  rintro e w' ⟨rfl, q⟩
  exact ⟨rfl, q⟩

theorem bt_kinds {w wr : World} {b t : Nat} {v u : Value} {ticks : Int} {J : List (Int × Int)} (h : BT w wr b t v u [(nA, 1)] ticks J) :
    Calls Try.prog 37 #[.pointer (some ⟨b, 0, none⟩)] wr fun e w' => e = .returned (.int .i64 1) ∧ w' = wr := by
  refine (S.kindsI h.bag).mono ?_
  rintro e w' ⟨rfl, rfl⟩
  exact ⟨rfl, rfl⟩

theorem one_lo {x y a : Int} (h : y < x) : ∀ i (hi : i < ([(y, a)] : List (Int × Int)).length), i < 1 → cmpZ ([(y, a)] : List (Int × Int))[i].1 x < 0 := by
  intro i hi _
  have hi0 : i = 0 := by simpa using hi
  subst hi0
  show cmpZ y x < 0
  unfold cmpZ
  rw [if_pos h]
  omega

theorem one_hi {x y a : Int} (h : x ≤ y) : ∀ i (hi : i < ([(y, a)] : List (Int × Int)).length), 0 ≤ i → 0 ≤ cmpZ ([(y, a)] : List (Int × Int))[i].1 x := by
  intro i hi _
  have hi0 : i = 0 := by simpa using hi
  subst hi0
  show 0 ≤ cmpZ y x
  unfold cmpZ
  rw [if_neg (by omega)]
  split <;> omega

theorem cmpZ_self (x : Int) : cmpZ x x = 0 := by
  unfold cmpZ
  rw [if_neg (by omega), if_neg (by omega)]

theorem bt_heard1 {w wr : World} {b t : Nat} {v u : Value} {K : List (ByteArray × Int)} (h : BT w wr b t v u K 0 []) :
    Calls Try.prog 42 #[.pointer (some ⟨t, 0, none⟩), .int .i64 7] wr fun e w' => ∃ u', e = .returned (.bool true) ∧ BT w w' b t v u' K 0 [(7, 0)] := by
  refine (L.heard_new (m := 0) h.tim 7 (by simp) (Nat.zero_le _) (by intro i hi; simp at hi) (by intro i hi; simp at hi) (by simp)).mono ?_
  rintro e w' ⟨v', rfl, h2, ho, q⟩
  exact ⟨v', rfl, h.timStep h2 ho q⟩

theorem bt_heard2 {w wr : World} {b t : Nat} {v u : Value} {K : List (ByteArray × Int)} (h : BT w wr b t v u K 0 [(7, 0)]) :
    Calls Try.prog 42 #[.pointer (some ⟨t, 0, none⟩), .int .i64 7] wr fun e w' => e = .returned (.bool false) ∧ BT w w' b t v u K 0 [(7, 0)] := by
  refine (L.heard_is (m := 0) h.tim 7 (by simp) (by intro i hi hm; omega) (one_hi (by omega)) (cmpZ_self 7)).mono ?_
  rintro e w' ⟨rfl, h2, q⟩
  exact ⟨rfl, h.timStep h2 (.inl rfl) q⟩

theorem bt_tick {w wr : World} {b t : Nat} {v u : Value} {K : List (ByteArray × Int)} {ticks : Int} {J : List (Int × Int)} (h : BT w wr b t v u K ticks J) (ht : ticks ≤ 999999) :
    Calls Try.prog 43 #[.pointer (some ⟨t, 0, none⟩)] wr fun e w' => ∃ sv, e = .returned sv ∧ w'.ownsRow 0 2 1 sv (L.silK 2 (ticks + 1) J).length (L.silK 2 (ticks + 1) J) ∧ BT w w' b t v u K (ticks + 1) J := by
  refine (L.tick_calls h.tim ht).mono ?_
  rintro e w' ⟨sv, rfl, hr, -, h2, q⟩
  exact ⟨sv, rfl, hr, h.timStep h2 (.inl rfl) (q.mono (by intro i hi; exact .inl (by rw [List.mem_singleton.1 hi]; simp)))⟩

theorem bt_age7 {w wr : World} {b t : Nat} {v u : Value} {K : List (ByteArray × Int)} (h : BT w wr b t v u K 2 [(7, 0)]) :
    Calls Try.prog 44 #[.pointer (some ⟨t, 0, none⟩), .int .i64 7] wr fun e w' => e = .returned (.int .i64 2) ∧ BT w w' b t v u K 2 [(7, 0)] := by
  refine (L.age_is (m := 0) h.tim 7 (by simp) (by intro i hi hm; omega) (one_hi (by omega)) (cmpZ_self 7)).mono ?_
  rintro e w' ⟨rfl, q⟩
  exact ⟨rfl, h.quiet q⟩

theorem bt_age8 {w wr : World} {b t : Nat} {v u : Value} {K : List (ByteArray × Int)} (h : BT w wr b t v u K 2 [(7, 0)]) :
    Calls Try.prog 44 #[.pointer (some ⟨t, 0, none⟩), .int .i64 8] wr fun e w' => e = .returned (.int .i64 (-1)) ∧ BT w w' b t v u K 2 [(7, 0)] := by
  refine (L.age_none (m := 1) h.tim 8 (by simp) (one_lo (by omega)) (by intro i hi hm; simp at hi; omega) (by simp)).mono ?_
  rintro e w' ⟨rfl, q⟩
  exact ⟨rfl, h.quiet q⟩

theorem bt_gone {w wr : World} {b t : Nat} {v u : Value} {K : List (ByteArray × Int)} (h : BT w wr b t v u K 2 [(7, 0)]) :
    Calls Try.prog 45 #[.pointer (some ⟨t, 0, none⟩), .int .i64 7] wr fun e w' => ∃ u', e = .returned (.bool true) ∧ BT w w' b t v u' K 2 [] := by
  refine (L.gone_is (m := 0) h.tim 7 (by simp) (by intro i hi hm; omega) (one_hi (by omega)) (cmpZ_self 7)).mono ?_
  rintro e w' ⟨v', rfl, h2, ho, q⟩
  exact ⟨v', rfl, h.timStep h2 (.inl ho) q⟩

theorem bt_has {w wr : World} {b t : Nat} {v u : Value} {K : List (ByteArray × Int)} (h : BT w wr b t v u K 2 []) :
    Calls Try.prog 46 #[.pointer (some ⟨t, 0, none⟩), .int .i64 7] wr fun e w' => e = .returned (.bool false) ∧ BT w w' b t v u K 2 [] := by
  refine (L.has_calls (m := 0) h.tim 7 (Nat.zero_le _) (by intro i hi; simp at hi) (by intro i hi; simp at hi)).mono ?_
  rintro e w' ⟨rfl, q⟩
  exact ⟨rfl, h.quiet q⟩

end Go.Proofs.Ytikbldnekehodaa
