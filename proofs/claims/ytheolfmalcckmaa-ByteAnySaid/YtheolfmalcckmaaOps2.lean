/-
  The walks of the law's own bytes and one.
-/
import Derived.Test.YtheolfmalcckmaaOps
namespace Go.Proofs.Ytheolfmalcckmaa
open Go.RowKit Go.ChangeShapes Go.WideShapes Go.ChangeAt Go.Deep

theorem Own.base {B B' : Nat} {w : World} {v : Value} {l : List UInt8} (h : Own B' w v l) (hB : B ≤ B') : Own B w v l :=
  ⟨h.1, h.2.imp id (fun ⟨g, cap, cur, a, b, c⟩ => ⟨g, cap, cur, a, Nat.le_trans hB b, c⟩)⟩

theorem size_after (w : World) (o : Obj) : w.heap.size ≤ (w.alloc o).heap.size := by simp

theorem owns_lit2 (w : World) (o : Obj) (l : List UInt8) (cs : Array Value) (k : Nat) (hk : l.length = k) (h : cs.toList = u8s l) (hm : l.length ≤ maxLen) :
    Own w.heap.size ((w.alloc o).alloc (.cells cs 5)) (.slice (some ⟨w.heap.size + 1, 0, none⟩) k k) l := by
  subst hk
  have e := owns_lit (w := w.alloc o) l cs h hm
  rw [World.size_alloc] at e
  exact Own.base e (by omega)

set_option maxHeartbeats 1000000 in
/-- A value's bytes, as the reference writes them. -/
theorem bytes_calls (x : OpV) (w : World) (hx : x.ok) :
    Calls Try.prog 22 #[x.val] w fun e w' => ∃ v, e = .returned v ∧ Own w.heap.size w' v (opB x) ∧ Below w.heap.size w w' := by
  obtain ⟨kd, n, s⟩ := x
  obtain ⟨hk, hn, hs⟩ := hx
  simp only at hk hn hs
  unfold OpV.val opB
  simp only
  by_cases k0 : kd = 0
  · subst k0
    go_enter Try.func22, Try.ntmps22
    go_wp2_with fail
    refine (refSmall_calls n _ hn).mono ?_
    rintro e w1 ⟨rfl, rfl⟩
    go_wp2_with fail
    go_ret
    refine ⟨_, rfl, owns_lit2 w _ (smallB n) _ 2 rfl (smallB_cells n).symm (by simp [smallB, maxLen]), (new_below w _).trans ((new_below _ _).mono (size_after _ _))⟩
  · have e0 : (kd == 0) = false := beq_eq_false_iff_ne.2 k0
    by_cases k1 : kd = 1
    · subst k1
      go_enter Try.func22, Try.ntmps22
      go_wp2_with fail
      refine (refLong_calls n _).mono ?_
      rintro e w1 ⟨v, rfl, hown, hbel⟩
      have H1 := Lib.hid hown
      have B1 := Lib.hid hbel
      clear hown hbel
      go_wp2_with fail
      go_ret
      exact ⟨_, rfl, H1.out.base (size_after _ _), (new_below w _).trans (B1.out.mono (size_after _ _))⟩
    · have e1 : (kd == 1) = false := beq_eq_false_iff_ne.2 k1
      by_cases k2 : kd = 2
      · subst k2
        go_enter Try.func22, Try.ntmps22
        go_wp2_with fail
        refine (cut_calls s 60 _ hs (by omega)).mono ?_
        rintro e w1 ⟨⟨x, rfl, hxl, hxd⟩, rfl⟩
        have HX := Lib.hid hxd
        have HT := Lib.hid (textB_short x hxl)
        clear hxd
        go_wp2_with fail
        refine (refText_calls x _ (by omega)).mono ?_
        rintro e w1 ⟨v, rfl, hown, hbel⟩
        rw [HT.out, HX.out] at hown
        have H1 := Lib.hid hown
        have B1 := Lib.hid hbel
        clear hown hbel
        go_wp2_with fail
        go_ret
        exact ⟨_, rfl, H1.out.base (size_after _ _), (new_below w _).trans (B1.out.mono (size_after _ _))⟩
      · have e2 : (kd == 2) = false := beq_eq_false_iff_ne.2 k2
        have m1 := i64_and1 n
        rw [if_neg k0, if_neg k1, if_neg k2]
        by_cases hodd : n % 2 = 1
        · have hb1 : (n % 2 == 1) = true := by rw [odd_is]; simp [hodd]
          rw [if_pos hodd]
          clear hodd
          go_enter Try.func22, Try.ntmps22
          go_wp2_with fail
          refine (refTruth_calls true _).mono ?_
          rintro e w1 ⟨rfl, rfl⟩
          go_wp2_with fail
          go_ret
          exact ⟨_, rfl, owns_lit2 w _ [1] _ 1 rfl rfl (by simp [maxLen]), (new_below w _).trans ((new_below _ _).mono (size_after _ _))⟩
        · have hb1 : (n % 2 == 1) = false := by rw [odd_is]; simp [hodd]
          rw [if_neg hodd]
          clear hodd
          go_enter Try.func22, Try.ntmps22
          go_wp2_with fail
          refine (refTruth_calls false _).mono ?_
          rintro e w1 ⟨rfl, rfl⟩
          go_wp2_with fail
          go_ret
          exact ⟨_, rfl, owns_lit2 w _ [0] _ 1 rfl rfl (by simp [maxLen]), (new_below w _).trans ((new_below _ _).mono (size_after _ _))⟩

/-! ### What is read of what was put -/

theorem taken_front (a r : List UInt8) (n : Nat) (h : a.length = n) : taken (a ++ r) false n = a ∧ after (a ++ r) false n = r ∧ canTake (a ++ r) false n = true := by
  have hc : canTake (a ++ r) false n = true := by simp [canTake]; omega
  subst h
  exact ⟨by rw [taken, if_pos hc, List.take_left], by rw [after, if_pos hc, List.drop_left], hc⟩

theorem leN_small (n : Int) : leN (smallB n) = (n % 65536).toNat := by
  have h0 := u8_ofNat (n := n % 256) (by omega) (by omega)
  have h1 := u8_ofNat (n := n / 256 % 256) (by omega) (by omega)
  show (UInt8.ofNat (n % 256).toNat).toNat + 256 * ((UInt8.ofNat (n / 256 % 256).toNat).toNat + 256 * 0) = _
  omega

theorem longN_long (n : Int) (h : -9223372036854775808 ≤ n ∧ n ≤ 9223372036854775807) : longN (longB n) = n := by
  have h0 := u8_ofNat (n := n % 256) (by omega) (by omega)
  have h1 := u8_ofNat (n := n / 256 % 256) (by omega) (by omega)
  have h2 := u8_ofNat (n := n / 65536 % 256) (by omega) (by omega)
  have h3 := u8_ofNat (n := n / 16777216 % 256) (by omega) (by omega)
  have h4 := u8_ofNat (n := n / 4294967296 % 256) (by omega) (by omega)
  have h5 := u8_ofNat (n := n / 1099511627776 % 256) (by omega) (by omega)
  have h6 := u8_ofNat (n := n / 281474976710656 % 256) (by omega) (by omega)
  have h7 := u8_ofNat (n := n / 72057594037927936 % 256) (by omega) (by omega)
  have e : ((leN (longB n) : Nat) : Int) = n % 18446744073709551616 := by
    unfold longB
    simp only [leN, Int.natCast_add, Int.natCast_mul]
    omega
  unfold longN
  rw [e]
  unfold wrap64
  omega

end Go.Proofs.Ytheolfmalcckmaa
