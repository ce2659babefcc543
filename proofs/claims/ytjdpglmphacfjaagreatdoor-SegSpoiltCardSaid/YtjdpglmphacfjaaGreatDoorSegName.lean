/-
  The table that strconv.Itoa reads, and the walk of Name.
-/
import Derived.Test.YtjdpglmphacfjaaGreatDoorSegFrame
import Derived.Test.YtjdpglmphacfjaaGreatDoorItoa
import Derived.Lib.LaidTab
namespace Go.Proofs.YtjdpglmphacfjaaGreatDoor
open Go.RowKit

/-- The library's table of powers of ten, as it is laid. -/
def Tab (w : World) : Prop := Lib.TabIs Tryz.prog w "internal/strconv.uint64pow10" .u64 Lib.pow10Tab

/-- The block where it lies. -/
noncomputable def tabB : Nat := (Tryz.prog.globalNamed "internal/strconv.uint64pow10").getD 0

theorem tab_named : Tryz.prog.globalNamed "internal/strconv.uint64pow10" = some tabB := by kernel_rfl

theorem Tab.lt {w : World} (h : Tab w) : tabB < w.heap.size := by
  unfold Tab Lib.TabIs World.var? at h
  rw [tab_named] at h
  simp only [Option.bind_some] at h
  rcases Nat.lt_or_ge tabB w.heap.size with h' | h'
  · exact h'
  · rw [Array.getElem?_eq_none h'] at h
    cases h

theorem Tab.turn {l : List Nat} {w w' : World} (h : Tab w) (t : Turn l w w') (hl : tabB ∉ l) : Tab w' := by
  have hlt := h.lt
  unfold Tab Lib.TabIs World.var? at h ⊢
  rw [tab_named] at h ⊢
  simp only [Option.bind_some] at h ⊢
  rw [t.block tabB hlt hl]
  exact h

theorem Tab.belowAll {w w' : World} (h : Tab w) (hb : Below w.heap.size w w') : Tab w' := h.turn (Turn.of_below hb []) (by simp)

theorem digits4 (u : Nat) (h1 : 1000 ≤ u) (h2 : u < 2000) : Lib.decDigits u = [49, UInt8.ofNat (48 + u / 100 % 10), UInt8.ofNat (48 + u / 10 % 10), UInt8.ofNat (48 + u % 10)] := by
  rw [Lib.decDigits, dif_neg (by omega), Lib.decDigits, dif_neg (by omega), Lib.decDigits, dif_neg (by omega), Lib.decDigits, dif_pos (by omega)]
  have e : u / 10 / 10 / 10 = 1 := by omega
  rw [e]
  simp only [List.cons_append, List.nil_append]
  rw [show u / 10 / 10 % 10 = u / 100 % 10 by omega]
  rfl

theorem itoa_seg (n : Nat) (h : n ≤ 999) : Lib.itoa (1000 + (n : Int)) = [49, UInt8.ofNat (48 + n / 100), UInt8.ofNat (48 + n / 10 % 10), UInt8.ofNat (48 + n % 10)] := by
  unfold Lib.itoa
  rw [if_neg (by omega), show (1000 + (n : Int)).toNat = 1000 + n by omega, digits4 _ (by omega) (by omega)]
  rw [show (1000 + n) / 100 % 10 = n / 100 by omega, show (1000 + n) / 10 % 10 = n / 10 % 10 by omega, show (1000 + n) % 10 = n % 10 by omega]

theorem log_cat (n : Nat) : (⟨#[108, 111, 103]⟩ : ByteArray) ++ ⟨#[UInt8.ofNat (48 + n / 100), UInt8.ofNat (48 + n / 10 % 10), UInt8.ofNat (48 + n % 10)]⟩ = ⟨(segName n).toArray⟩ := ByteArray.mk_append_mk [108, 111, 103] _

theorem grow_below (w : World) (k : Nat) (os : Array Obj) : Below w.heap.size w (Go.Sort.grow (w.drewN k) os) :=
  ⟨rfl, rfl, rfl, by simp [Go.Sort.grow], fun i hi => by
    show (w.heap ++ os)[i]? = _
    rw [Array.getElem?_append_left hi]⟩

set_option maxHeartbeats 1000000 in
theorem name_calls (n : Nat) (hn : n ≤ 999) (w : World) (ht : Tab w) :
    Calls Tryz.prog 25 #[.int .i64 (n : Int)] w fun e w' => e = .returned (.string ⟨(segName n).toArray⟩) ∧ Below w.heap.size w w' := by
  have CM := mayNumber_calls (n : Int) w
  rw [show (decide (0 ≤ (n : Int)) && decide ((n : Int) ≤ 999)) = true by simp; omega] at CM
  have CI := Tryz.strconv_Itoa (1000 + (n : Int)) (by omega) (by omega) w ht
  rw [itoa_seg n hn] at CI
  obtain ⟨x1, hx1⟩ : ∃ x, x = UInt8.ofNat (48 + n / 100) := ⟨_, rfl⟩
  obtain ⟨x2, hx2⟩ : ∃ x, x = UInt8.ofNat (48 + n / 10 % 10) := ⟨_, rfl⟩
  obtain ⟨x3, hx3⟩ : ∃ x, x = UInt8.ofNat (48 + n % 10) := ⟨_, rfl⟩
  have hlc := log_cat n
  rw [← hx1, ← hx2, ← hx3] at CI hlc
  have HL := Lib.hid hlc
  clear hx1 hx2 hx3 hlc
  have hex : (⟨#[49, x1, x2, x3]⟩ : ByteArray).extract 1 4 = ⟨#[x1, x2, x3]⟩ := rfl
  have HC := Lib.hid CI
  have HM := Lib.hid CM
  clear CI CM
  have hn2 : (n : Int) ≤ 999 := by omega
  go_enter Tryz.func25, Tryz.ntmps25
  go_wp2_with fail
  refine HM.out.mono ?_
  rintro e w' ⟨rfl, rfl⟩
  go_wp2_with fail
  refine HC.out.mono ?_
  rintro e w' ⟨rfl, k, os, rfl⟩
  go_wp2
  go_ret
  refine ⟨?_, grow_below w k os⟩
  rw [← HL.out]
  rfl

end Go.Proofs.YtjdpglmphacfjaaGreatDoor
