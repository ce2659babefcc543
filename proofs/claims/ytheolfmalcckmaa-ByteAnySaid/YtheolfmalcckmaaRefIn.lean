/-
  The reference's In: take, Small, Long, Text, Truth, Left, End.
-/
import Derived.Test.YtheolfmalcckmaaOne
import Derived.Test.YtheolfmalcckmaaShort
import Derived.Test.YtheolfmalcckmaaBytePartsWalk
import Derived.Lib.SliceRun
import Derived.Deep.QuietTactic
import Derived.BigQuiet
namespace Go.Proofs.Ytheolfmalcckmaa
open Go.RowKit

/-- What is left of the reference's In whose two cells are the block b. -/
def RIn (q : Nat) (w : World) (b : Nat) (l : List UInt8) (bad : Bool) : Prop :=
  ∃ (ao : Option Addr) (c : Nat) (B : List UInt8), w.cell? ⟨b, 0, none⟩ = some (.slice ao B.length c) ∧ w.cell? ⟨b, 1, none⟩ = some (.bool bad) ∧ w.frozen? ⟨b, 0, none⟩ = false ∧ w.frozen? ⟨b, 1, none⟩ = false ∧
    Sl w ao c B ∧ (B ≠ [] → ∃ g off, ao = some ⟨g, off, none⟩ ∧ g < q) ∧ B.length ≤ 1000 ∧ l = (if bad = true then [] else B) ∧ (∀ A, ao = some A → ∃ g off, A = ⟨g, off, none⟩) ∧ q ≤ b

variable {q : Nat}

theorem RIn.lt {w : World} {b : Nat} {l : List UInt8} {bad : Bool} (h : RIn q w b l bad) : b < w.heap.size := by
  obtain ⟨_, _, _, h0, _⟩ := h
  exact World.block_lt_of_cell? _ _ h0

/-- Another world in which the blocks up to b stand. -/
theorem RIn.same {w w' : World} {b : Nat} {l : List UInt8} {bad : Bool} (h : RIn q w b l bad) (hb : ∀ k, k ≤ b → w'.heap[k]? = w.heap[k]?) : RIn q w' b l bad := by
  obtain ⟨ao, c, B, h0, h1, f0, f1, hs, hg, hl, he, hform, hqb⟩ := h
  refine ⟨ao, c, B, (World.cell?_of_block (a := ⟨b, 0, none⟩) (hb b (Nat.le_refl _))).trans h0, (World.cell?_of_block (a := ⟨b, 1, none⟩) (hb b (Nat.le_refl _))).trans h1,
    (World.frozen?_of_block (a := ⟨b, 0, none⟩) (hb b (Nat.le_refl _))).trans f0, (World.frozen?_of_block (a := ⟨b, 1, none⟩) (hb b (Nat.le_refl _))).trans f1, ?_, hg, hl, he, hform, hqb⟩
  rcases hs with h | ⟨A, hA, h1, h2, hc⟩
  · exact .inl h
  · refine .inr ⟨A, hA, h1, h2, fun i hi => ?_⟩
    obtain ⟨g, off, e1, e2⟩ := hg (by intro e; rw [e] at hi; simp at hi)
    rw [hA] at e1
    cases e1
    rw [World.cell?_of_block (hb _ (by rw [add_block]; exact Nat.le_trans (Nat.le_of_lt e2) hqb))]
    exact hc i hi

/-- A slice of bytes in blocks below b does not see a store into the block b. -/
theorem Sl.stored {w : World} {b i : Nat} {v : Value} {ao : Option Addr} {c : Nat} {l : List UInt8} (hs : Sl w ao c l) (hg : l ≠ [] → ∃ g off, ao = some ⟨g, off, none⟩ ∧ g < q) (hqb : q ≤ b) : Sl (w.setCell ⟨b, i, none⟩ v) ao c l := by
  rcases hs with h | ⟨A, hA, h1, h2, hc⟩
  · exact .inl h
  · refine .inr ⟨A, hA, h1, h2, fun j hj => ?_⟩
    obtain ⟨g, off, e1, e2⟩ := hg (by intro e; rw [e] at hj; simp at hj)
    rw [hA] at e1
    cases e1
    rw [World.cell?_of_block (Below.heap_setCell _ _ _ _ (by rw [add_block]; show g ≠ b; omega))]
    exact hc j hj

/-- A world in which no block turned but one that is neither b nor the row's. -/
theorem RIn.far {w w' : World} {b i : Nat} {l : List UInt8} {bad : Bool} (h : RIn q w b l bad) (hg2 : w.grownBy w' (some i)) (hi : q ≤ i) (hib : i ≠ b) : RIn q w' b l bad := by
  have hlt : b < w.heap.size := by obtain ⟨_, _, _, h0, _⟩ := h; exact World.block_lt_of_cell? _ _ h0
  obtain ⟨ao, c, B, h0, h1, f0, f1, hs, hg, hl, he, hform, hqb⟩ := h
  have e := hg2.block b hlt (by intro e; cases e; exact hib rfl)
  refine ⟨ao, c, B, (World.cell?_of_block (a := ⟨b, 0, none⟩) e).trans h0, (World.cell?_of_block (a := ⟨b, 1, none⟩) e).trans h1,
    (World.frozen?_of_block (a := ⟨b, 0, none⟩) e).trans f0, (World.frozen?_of_block (a := ⟨b, 1, none⟩) e).trans f1, ?_, hg, hl, he, hform, hqb⟩
  rcases hs with h | ⟨A, hA, h1, h2, hc⟩
  · exact .inl h
  · refine .inr ⟨A, hA, h1, h2, fun j hj => ?_⟩
    obtain ⟨g, off, e1, e2⟩ := hg (by intro e; rw [e] at hj; simp at hj)
    rw [hA] at e1
    cases e1
    refine Eq.trans (World.cell?_of_block ?_) (hc j hj)
    rw [add_block]
    exact hg2.block g (by omega) (by intro e; cases e; omega)

theorem RIn.spoilt {w : World} {b : Nat} {l : List UInt8} {bad : Bool} (h : RIn q w b l bad) : RIn q (w.setCell ⟨b, 1, none⟩ (.bool true)) b [] true := by
  obtain ⟨ao, c, B, h0, h1, f0, f1, hs, hg, hl, he, hform, hqb⟩ := h
  exact ⟨ao, c, B, by rw [World.cell?_setCell_other _ _ _ _ (by simp)]; exact h0, World.cell?_setCell_same _ _ _ h1, by rw [World.frozen?_setCell]; exact f0, by rw [World.frozen?_setCell]; exact f1, hs.stored hg hqb, hg, hl, rfl, hform, hqb⟩

theorem RIn.moved {w : World} {b : Nat} {l : List UInt8} {ao : Option Addr} {c n : Nat} (h : RIn q w b l false) (hs : Sl w ao c (l.drop n)) (hg : l.drop n ≠ [] → ∃ g off, ao = some ⟨g, off, none⟩ ∧ g < q) (hform : ∀ A, ao = some A → ∃ g off, A = ⟨g, off, none⟩) :
    RIn q (w.setCell ⟨b, 0, none⟩ (.slice ao (l.drop n).length c)) b (l.drop n) false := by
  obtain ⟨ao0, c0, B, h0, h1, f0, f1, hs0, hg0, hl, he, _, hqb⟩ := h
  rw [if_neg (by decide)] at he
  subst he
  exact ⟨ao, c, l.drop n, World.cell?_setCell_same _ _ _ h0, by rw [World.cell?_setCell_other _ _ _ _ (by simp)]; exact h1, by rw [World.frozen?_setCell]; exact f0, by rw [World.frozen?_setCell]; exact f1, hs.stored hg hqb, hg, by simp; omega, rfl, hform, hqb⟩

set_option maxHeartbeats 1000000 in
theorem rtake_not (b n : Nat) (l : List UInt8) (bad : Bool) (w : World) (h : RIn q w b l bad) (hc : canTake l bad n = false) :
    Calls Try.prog 51 #[.pointer (some ⟨b, 0, none⟩), .int .i64 (n : Int)] w fun e w' => e = .returned (.slice none 0 0) ∧ RIn q w' b [] true ∧ w.grownBy w' (some b) := by
  have HS := Lib.hid h.spoilt
  have HG := Lib.hid (setCell_kept w b 1 (.bool true))
  obtain ⟨ao, c, B, h0, h1, f0, f1, hs, hg, hl, he, hform, hqb⟩ := h
  cases bad with
  | true =>
    clear hs hg he hl hc hform
    go_enter Try.func51, Try.ntmps51
    go_wp2
    go_ret
    exact ⟨rfl, HS.out, HG.out⟩
  | false =>
    have hlt : (B.length : Int) < (n : Int) := by
      rw [if_neg (by decide)] at he
      subst he
      simp [canTake] at hc
      omega
    clear hs hg he hl hc hform
    go_enter Try.func51, Try.ntmps51
    go_wp2
    go_ret
    exact ⟨rfl, HS.out, HG.out⟩

theorem Sl.drop {w : World} {g off cap : Nat} {l : List UInt8} (h : Sl w (some ⟨g, off, none⟩) cap l) {m : Nat} (hm : m ≤ l.length) :
    ∃ off', (if cap = m then some (⟨g, off, none⟩ : Addr) else some ⟨g, off + m, none⟩) = some ⟨g, off', none⟩ ∧ Hid (Sl w (some ⟨g, off', none⟩) (cap - m) (l.drop m)) := by
  have hle := h.le
  rcases h with ⟨h, _⟩ | ⟨A, hA, h1, h2, hc⟩
  · cases h
  · cases hA
    by_cases hcm : cap = m
    · refine ⟨off, by rw [if_pos hcm], .inr ⟨_, rfl, by simp; omega, by omega, fun i hi => ?_⟩⟩
      simp at hi
      omega
    · refine ⟨off + m, by rw [if_neg hcm], .inr ⟨_, rfl, by simp; omega, by omega, fun i hi => ?_⟩⟩
      simp at hi
      have := hc (m + i) (by omega)
      rw [Addr.add_lit, show off + (m + i) = off + m + i by omega] at this
      rw [Addr.add_lit, this]
      simp [List.getD]

set_option maxHeartbeats 1000000 in
theorem rtake_can (b n : Nat) (l : List UInt8) (w : World) (h : RIn q w b l false) (hn : n ≤ l.length) :
    Calls Try.prog 51 #[.pointer (some ⟨b, 0, none⟩), .int .i64 (n : Int)] w fun e w' => ∃ ao c, e = .returned (.slice ao n c) ∧ Sl w' ao c (l.take n) ∧ (0 < n → ∃ g off, ao = some ⟨g, off, none⟩ ∧ g < b) ∧ RIn q w' b (l.drop n) false ∧ w.grownBy w' (some b) := by
  have H := Lib.hid h
  obtain ⟨ao, c, B, h0, h1, f0, f1, hs, hg, hl, he, hform, hqb⟩ := h
  rw [if_neg (by decide)] at he
  subst he
  have hle := hs.le
  unfold maxLen at hle
  have hn' : (n : Int) ≤ (l.length : Int) := by omega
  have hc' : (l.length : Int) ≤ (c : Int) := by omega
  have hc2 : (n : Int) ≤ (c : Int) := by omega
  cases ao with
  | none =>
    rcases hs with ⟨_, rfl, rfl⟩ | ⟨A, hA, _⟩
    · obtain rfl : n = 0 := by simpa using hn
      have HS := Lib.hid (H.out.moved (ao := none) (c := 0) (n := 0) (Sl.nil w) (by intro h; simp at h) (by intro A hA; cases hA))
      have HG := Lib.hid (setCell_kept w b 0 (.slice none 0 0))
      clear hg hl hform hle hn hn' hc' hc2
      go_enter Try.func51, Try.ntmps51
      go_wp2
      go_ret
      exact ⟨none, 0, rfl, Sl.nil _, HS.out, HG.out⟩
    · cases hA
  | some A =>
    obtain ⟨g, off, rfl⟩ := hform A rfl
    obtain ⟨off', ho, hd⟩ := hs.drop hn
    have hg' : l ≠ [] → g < q := fun h => by obtain ⟨g', off', e, h'⟩ := hg h; cases e; exact h'
    have HS := Lib.hid (H.out.moved hd.out (fun h => ⟨g, off', rfl, hg' (by intro e; subst e; simp at h)⟩) (fun A hA => by cases hA; exact ⟨_, _, rfl⟩))
    rw [List.length_drop] at HS
    have HG := Lib.hid (setCell_kept w b 0 (.slice (some ⟨g, off', none⟩) (l.length - n) (c - n)))
    have HT : Hid (Sl (w.setCell ⟨b, 0, none⟩ (.slice (some ⟨g, off', none⟩) (l.length - n) (c - n))) (some ⟨g, off, none⟩) c (l.take n)) := Lib.hid ((Sl.take hs n).stored (fun h => ⟨g, off, rfl, hg' (by intro e; subst e; simp at h)⟩) hqb)
    have HGB : Hid (0 < n → g < b) := Lib.hid (fun h => Nat.lt_of_lt_of_le (hg' (by intro e; subst e; simp at hn; omega)) hqb)
    clear hg hform hle hs hg' hl hd
    go_enter Try.func51, Try.ntmps51
    go_wp2
    go_ret
    exact ⟨_, _, rfl, HT.out, fun h => ⟨_, _, rfl, HGB.out h⟩, HS.out, HG.out⟩

set_option maxHeartbeats 1000000 in
theorem rleft_calls (b : Nat) (l : List UInt8) (bad : Bool) (w : World) (h : RIn q w b l bad) :
    Calls Try.prog 37 #[.pointer (some ⟨b, 0, none⟩)] w fun e w' => e = .returned (.int .i64 (l.length : Nat)) ∧ w = w' := by
  obtain ⟨ao, c, B, h0, h1, f0, f1, hs, hg, hl, he, hform, hqb⟩ := h
  cases bad with
  | true =>
    rw [if_pos rfl] at he
    subst he
    clear hs hg hform
    go_enter Try.func37, Try.ntmps37
    go_wp2
    go_ret
    exact ⟨rfl, rfl⟩
  | false =>
    rw [if_neg (by decide)] at he
    subst he
    clear hs hg hform
    go_enter Try.func37, Try.ntmps37
    go_wp2
    go_ret
    exact ⟨rfl, rfl⟩

set_option maxHeartbeats 1000000 in
theorem rend_calls (b : Nat) (l : List UInt8) (bad : Bool) (w : World) (h : RIn q w b l bad) :
    Calls Try.prog 38 #[.pointer (some ⟨b, 0, none⟩)] w fun e w' => e = .returned (.bool (!bad && decide (l = []))) ∧ w = w' := by
  obtain ⟨ao, c, B, h0, h1, f0, f1, hs, hg, hl, he, hform, hqb⟩ := h
  cases bad with
  | true =>
    clear hs hg hform
    go_enter Try.func38, Try.ntmps38
    go_wp2
    go_ret
    exact ⟨rfl, rfl⟩
  | false =>
    rw [if_neg (by decide)] at he
    subst he
    have e : (decide (l = [])) = ((l.length : Int) == 0) := by
      cases l with
      | nil => rfl
      | cons a l => simp; omega
    have HE := Lib.hid e
    clear hs hg hform e
    go_enter Try.func38, Try.ntmps38
    go_wp2
    go_ret
    exact ⟨ret_bool (by rw [HE.out]; simp), rfl⟩

theorem nil_test (w : World) (a : Option Addr) (n c : Nat) : (binOp .eql 25 (.slice a n c) (.slice none 0 0)).run Try.prog w = .ok (.bool a.isNone) w :=
  Lib.run_eql_slice_nil w _ _ a n c 0 0 Try.underlying25

theorem Sl.two {w : World} {g off c : Nat} {x y : UInt8} (h : Sl w (some ⟨g, off, none⟩) c [x, y]) : w.cell? ⟨g, off, none⟩ = some (.int .u8 (x.toNat : Int)) ∧ w.cell? ⟨g, off + 1, none⟩ = some (.int .u8 (y.toNat : Int)) := by
  rcases h with ⟨h, _⟩ | ⟨A, hA, _, _, hc⟩
  · cases h
  · cases hA
    exact ⟨by have := hc 0 (by simp); rwa [Addr.add_lit] at this, by have := hc 1 (by simp); rwa [Addr.add_lit] at this⟩

set_option maxHeartbeats 1000000 in
theorem rsmall_calls (b : Nat) (l : List UInt8) (bad : Bool) (w : World) (h : RIn q w b l bad) :
    Calls Try.prog 30 #[.pointer (some ⟨b, 0, none⟩)] w fun e w' => e = .returned (.int .i64 (leN (taken l bad 2) : Nat)) ∧ RIn q w' b (after l bad 2) (!canTake l bad 2) ∧ w.grownBy w' (some b) := by
  by_cases hc : canTake l bad 2 = true
  · have hbad : bad = false := by simp [canTake] at hc; exact hc.1
    have hle : 2 ≤ l.length := by simp [canTake] at hc; exact hc.2
    subst hbad
    obtain ⟨x, y, r, rfl⟩ : ∃ x y r, l = x :: y :: r := by
      match l, hle with
      | x :: y :: r, _ => exact ⟨x, y, r, rfl⟩
    have e1 : taken (x :: y :: r) false 2 = [x, y] := by rw [taken, if_pos hc]; rfl
    have e2 : after (x :: y :: r) false 2 = r := by rw [after, if_pos hc]; rfl
    rw [e1, e2, hc]
    have hx := x.toNat_lt
    have hy := y.toNat_lt
    have C := Lib.hid (rtake_can b 2 (x :: y :: r) w h (by simp))
    obtain ⟨n, hn⟩ : ∃ n, n = leN [x, y] := ⟨_, rfl⟩
    have hn2 : n = x.toNat + 256 * y.toNat := by rw [hn]; simp [leN]
    rw [← hn]
    have HN := Lib.hid hn2
    clear hn hn2 h hc e1 e2 hle
    go_enter Try.func30, Try.ntmps30
    go_wp2_with fail
    refine C.out.mono ?_
    rintro e w1 ⟨ao, c, rfl, hs, hg, hr, hgr⟩
    obtain ⟨g, off, rfl, _⟩ := hg (by omega)
    obtain ⟨c0, c1⟩ := Sl.two hs
    have R1 : Hid (RIn q w1 b r false) := Lib.hid hr
    have G1 := Lib.hid hgr
    have nt := nil_test w1
    clear hs hg hr hgr C
    have k0 : ∀ nq : Nat, (w1.drewN nq).cell? ⟨g, off, none⟩ = some (.int .u8 (x.toNat : Int)) := fun _ => c0
    have k1 : ∀ nq : Nat, (w1.drewN nq).cell? ⟨g, off + 1, none⟩ = some (.int .u8 (y.toNat : Int)) := fun _ => c1
    go_wp2
    go_quiet (fail)
    have R2 : Hid (RIn q (w1.drewN nq) b r false) := R1
    go_wp2
    go_ret
    exact ⟨ret_int (by rw [HN.out]; omega), R2.out, ⟨G1.out.os, G1.out.tape, G1.out.output, G1.out.size, G1.out.block⟩⟩
  · have e1 : taken l bad 2 = [] := by rw [taken, if_neg hc]
    have e2 : after l bad 2 = [] := by rw [after, if_neg hc]
    have e3 : canTake l bad 2 = false := by simpa using hc
    have C := Lib.hid (rtake_not b 2 l bad w h e3)
    rw [e1, e2, e3]
    clear h hc e1 e2 e3
    go_enter Try.func30, Try.ntmps30
    go_wp2_with fail
    refine C.out.mono ?_
    rintro e w1 ⟨rfl, hr, hgr⟩
    have R1 := Lib.hid hr
    have G1 := Lib.hid hgr
    have nt := nil_test w1
    clear hr hgr C
    go_wp2
    go_ret
    exact ⟨rfl, R1.out, G1.out⟩

theorem RIn.kept {w : World} {b : Nat} {l : List UInt8} (h : RIn q w b l false) : RIn q (w.setCell ⟨b, 1, none⟩ (.bool false)) b l false := by
  obtain ⟨ao, c, B, h0, h1, f0, f1, hs, hg, hl, he, hform, hqb⟩ := h
  exact ⟨ao, c, B, by rw [World.cell?_setCell_other _ _ _ _ (by simp)]; exact h0, World.cell?_setCell_same _ _ _ h1, by rw [World.frozen?_setCell]; exact f0, by rw [World.frozen?_setCell]; exact f1, hs.stored hg hqb, hg, hl, he, hform, hqb⟩

theorem RIn.bad1 {w : World} {b : Nat} {l : List UInt8} {bad : Bool} (h : RIn q w b l bad) : w.cell? ⟨b, 1, none⟩ = some (.bool bad) ∧ w.frozen? ⟨b, 1, none⟩ = false := by
  obtain ⟨ao, c, B, h0, h1, f0, f1, _⟩ := h
  exact ⟨h1, f1⟩

theorem Sl.one {w : World} {g off c : Nat} {x : UInt8} (h : Sl w (some ⟨g, off, none⟩) c [x]) : w.cell? ⟨g, off, none⟩ = some (.int .u8 (x.toNat : Int)) := by
  rcases h with ⟨h, _⟩ | ⟨A, hA, _, _, hc⟩
  · cases h
  · cases hA
    have := hc 0 (by simp)
    rwa [Addr.add_lit] at this

set_option maxHeartbeats 1000000 in
theorem rtruth_calls (b : Nat) (l : List UInt8) (bad : Bool) (w : World) (h : RIn q w b l bad) :
    Calls Try.prog 36 #[.pointer (some ⟨b, 0, none⟩)] w fun e w' => e = .returned (.bool (truthV l bad)) ∧ RIn q w' b (truthA l bad) (!truthC l bad) ∧ w.grownBy w' (some b) := by
  unfold truthV truthA truthC
  by_cases hc : canTake l bad 1 = true
  · have hbad : bad = false := by simp [canTake] at hc; exact hc.1
    have hle : 1 ≤ l.length := by simp [canTake] at hc; exact hc.2
    subst hbad
    obtain ⟨x, r, rfl⟩ : ∃ x r, l = x :: r := by
      match l, hle with
      | x :: r, _ => exact ⟨x, r, rfl⟩
    have e1 : taken (x :: r) false 1 = [x] := by rw [taken, if_pos hc]; rfl
    have e2 : after (x :: r) false 1 = r := by rw [after, if_pos hc]; rfl
    have e4 : leN [x] = x.toNat := by simp [leN]
    rw [e1, e2, hc, e4]
    have hx := x.toNat_lt
    have C := Lib.hid (rtake_can b 1 (x :: r) w h (by simp))
    clear h hc e1 e2 e4 hle
    by_cases hx1 : x.toNat ≤ 1
    · have hx2 : (x.toNat : Int) ≤ 1 := by omega
      have e5 : (true && decide (x.toNat ≤ 1)) = true := by simp [hx1]
      have e6 : (x.toNat == 1) = ((x.toNat : Int) == 1) := by rw [Bool.eq_iff_iff]; simp; omega
      rw [if_pos hx1, e5, e6]
      clear e5 e6 hx1
      go_enter Try.func36, Try.ntmps36
      go_wp2_with fail
      refine C.out.mono ?_
      rintro e w1 ⟨ao, c, rfl, hs, hg, hr, hgr⟩
      obtain ⟨g, off, rfl, hgb⟩ := hg (by omega)
      have c0 := Sl.one hs
      obtain ⟨c1, f1⟩ := RIn.bad1 hr
      have hd : decide (1 < (x.toNat : Int)) = false := by simp; omega
      have R1 : Hid (RIn q (w1.setCell ⟨b, 1, none⟩ (.bool (decide (1 < (x.toNat : Int))))) b r false) := Lib.hid (by rw [hd]; exact RIn.kept hr)
      have G1 := Lib.hid (grown_trans hgr (setCell_kept w1 b 1 (.bool (decide (1 < (x.toNat : Int))))))
      clear hd
      have nt := nil_test w1
      have hne : g ≠ b := by omega
      clear hs hg hr hgr C
      go_wp2
      go_ret
      exact ⟨rfl, R1.out, G1.out⟩
    · have hx2 : 1 < (x.toNat : Int) := by omega
      have e5 : (true && decide (x.toNat ≤ 1)) = false := by simp; omega
      have e6 : (x.toNat == 1) = ((x.toNat : Int) == 1) := by rw [Bool.eq_iff_iff]; simp; omega
      rw [if_neg hx1, e5, e6]
      clear e5 e6 hx1
      go_enter Try.func36, Try.ntmps36
      go_wp2_with fail
      refine C.out.mono ?_
      rintro e w1 ⟨ao, c, rfl, hs, hg, hr, hgr⟩
      obtain ⟨g, off, rfl, hgb⟩ := hg (by omega)
      have c0 := Sl.one hs
      obtain ⟨c1, f1⟩ := RIn.bad1 hr
      have R1 : Hid (RIn q (w1.setCell ⟨b, 1, none⟩ (.bool true)) b [] true) := Lib.hid (RIn.spoilt hr)
      have G1 := Lib.hid (grown_trans hgr (setCell_kept w1 b 1 (.bool true)))
      have nt := nil_test w1
      have hne : g ≠ b := by omega
      clear hs hg hr hgr C
      go_wp2
      go_ret
      exact ⟨rfl, R1.out, G1.out⟩
  · have e1 : taken l bad 1 = [] := by rw [taken, if_neg hc]
    have e2 : after l bad 1 = [] := by rw [after, if_neg hc]
    have e3 : canTake l bad 1 = false := by simpa using hc
    have C := Lib.hid (rtake_not b 1 l bad w h e3)
    rw [e1, e2, e3]
    clear h hc e1 e2 e3
    go_enter Try.func36, Try.ntmps36
    go_wp2_with fail
    refine C.out.mono ?_
    rintro e w1 ⟨rfl, hr, hgr⟩
    have R1 := Lib.hid hr
    have G1 := Lib.hid hgr
    have nt := nil_test w1
    clear hr hgr C
    go_wp2
    go_ret
    exact ⟨rfl, R1.out, G1.out⟩

theorem grown_ge {w w' : World} {r : Option Nat} (h : w.grownBy w' r) : w.heap.size ≤ w'.heap.size := h.size

set_option maxHeartbeats 1000000 in
theorem rtext_calls (b : Nat) (l : List UInt8) (bad : Bool) (w : World) (h : RIn q w b l bad) :
    Calls Try.prog 34 #[.pointer (some ⟨b, 0, none⟩)] w fun e w' => e = .returned (.string ⟨(textT l bad).toArray⟩) ∧ RIn q w' b (textA l bad) (!textC l bad) ∧ w.grownBy w' (some b) := by
  have hl := leN_lt' (taken_len l bad 2)
  have C := Lib.hid (rsmall_calls b l bad w h)
  have hA : canTake l bad 2 = false → after l bad 2 = [] := fun e => by rw [after, if_neg (by rw [e]; decide)]
  clear h
  unfold textT textA textC
  generalize leN (taken l bad 2) = n at *
  generalize after l bad 2 = A at *
  generalize canTake l bad 2 = cc at *
  by_cases h0 : n = 0
  · subst h0
    have e1 : taken A (!cc) 0 = [] := by unfold taken; split <;> simp
    have e2 : after A (!cc) 0 = A := by
      unfold after
      cases cc with
      | true => rw [if_pos (by simp [canTake])]; rfl
      | false => rw [if_neg (by simp [canTake]), hA rfl]
    have e3 : canTake A (!cc) 0 = cc := by simp [canTake]
    rw [e1, e2, e3]
    clear hA e1 e2 e3 hl
    go_enter Try.func34, Try.ntmps34
    go_wp2_with fail
    refine C.out.mono ?_
    rintro e w1 ⟨rfl, hr, hgr⟩
    have R1 := Lib.hid hr
    have G1 := Lib.hid hgr
    clear hr hgr C
    go_wp2
    go_ret
    exact ⟨rfl, R1.out, G1.out⟩
  · have hn0 : (0 : Int) < (n : Int) := by omega
    have hn1 : ((n : Int) == 0) = false := by simp; omega
    by_cases hc : canTake A (!cc) n = true
    · have hcc : cc = true := by cases cc; · simp [canTake] at hc
                                 · rfl
      subst hcc
      have hle : n ≤ A.length := by simp [canTake] at hc; exact hc
      have e1 : taken A (!true) n = A.take n := by rw [taken, if_pos hc]
      have e2 : after A (!true) n = A.drop n := by rw [after, if_pos hc]
      rw [e1, e2, hc]
      have hlen : (A.take n).length = n := by simp; omega
      have HL := Lib.hid hlen
      have CT := Lib.hid (fun wx (h : RIn q wx b A false) => rtake_can b n A wx h hle)
      clear hA e1 e2 hc hle hlen
      go_enter Try.func34, Try.ntmps34
      go_wp2_with fail
      refine C.out.mono ?_
      rintro e w1 ⟨rfl, hr, hgr⟩
      have R1 := Lib.hid hr
      have G1 := Lib.hid hgr
      clear hr hgr C
      go_wp2_with fail
      refine (CT.out _ R1.out).mono ?_
      rintro e w2 ⟨ao, c, rfl, hs, hg, hr, hgr⟩
      have t2 := text_back hs
      rw [HL.out] at t2
      have R2 : Hid (RIn q w2 b (A.drop n) (!true)) := Lib.hid hr
      have G2 := Lib.hid (grown_trans G1.out hgr)
      clear hs hg hr hgr CT
      go_wp2
      go_ret
      exact ⟨rfl, R2.out, G2.out⟩
    · have e1 : taken A (!cc) n = [] := by rw [taken, if_neg hc]
      have e2 : after A (!cc) n = [] := by rw [after, if_neg hc]
      have e3 : canTake A (!cc) n = false := by simpa using hc
      rw [e1, e2, e3]
      have CT := Lib.hid (fun wx (h : RIn q wx b A (!cc)) => rtake_not b n A (!cc) wx h e3)
      clear hA e1 e2 e3 hc
      go_enter Try.func34, Try.ntmps34
      go_wp2_with fail
      refine C.out.mono ?_
      rintro e w1 ⟨rfl, hr, hgr⟩
      have R1 := Lib.hid hr
      have G1 := Lib.hid hgr
      clear hr hgr C
      go_wp2_with fail
      refine (CT.out _ R1.out).mono ?_
      rintro e w2 ⟨rfl, hr, hgr⟩
      have t2 := nil_text w2
      have R2 := Lib.hid hr
      have G2 := Lib.hid (grown_trans G1.out hgr)
      clear hr hgr CT
      go_wp2
      go_ret
      exact ⟨rfl, R2.out, G2.out⟩

end Go.Proofs.Ytheolfmalcckmaa
