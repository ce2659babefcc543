/-
  The walks of byt.In: number, take, spoil, Left, Bad, End, Small, Long, Text, Truth, Read.
-/
import Derived.Test.YtanjbbmgpodbgaaOut
namespace Go.Proofs.Ytanjbbmgpodbgaa
open Go.RowKit

/-- What bytes say, the lowest first. -/
def leN : List UInt8 → Nat
  | [] => 0
  | b :: l => b.toNat + 256 * leN l

theorem leN_snoc : ∀ (l : List UInt8) (b : UInt8), leN (l ++ [b]) = leN l + 256 ^ l.length * b.toNat
  | [], b => by simp [leN]
  | a :: l, b => by
    simp only [List.cons_append, leN, leN_snoc l b, List.length_cons, Nat.pow_succ]
    rw [Nat.mul_add, Nat.mul_comm (256 ^ l.length) 256, Nat.mul_assoc]
    omega

theorem leN_lt : ∀ (l : List UInt8), leN l < 256 ^ l.length
  | [] => by simp [leN]
  | a :: l => by
    have h := leN_lt l
    have ha := a.toNat_lt
    simp only [leN, List.length_cons, Nat.pow_succ]
    omega

theorem pow_256 (k : Nat) : 256 ^ k = 2 ^ (8 * k) := by rw [Nat.pow_mul]

theorem leN_step {l : List UInt8} {k : Nat} (hk : k < l.length) (h8 : k < 8) :
    bits .or .u64 ((leN (l.take k) : Nat) : Int) (IntKind.u64.wrap (IntKind.u64.wrap ((l[k].toNat : Nat) : Int) * 2 ^ (8 * k))) = ((leN (l.take (k + 1)) : Nat) : Int) := by
  have hb : l[k].toNat < 256 := by have := l[k].toNat_lt; omega
  have h1 := leN_lt (l.take k)
  rw [List.length_take, Nat.min_eq_left (by omega), pow_256] at h1
  have hp : 2 ^ (8 * k) * 256 ≤ 2 ^ 64 := by
    rw [show (256 : Nat) = 2 ^ 8 from rfl, ← Nat.pow_add]
    exact Nat.pow_le_pow_right (by omega) (by omega)
  have hm : 2 ^ (8 * k) * l[k].toNat < 18446744073709551616 := by
    have : 2 ^ (8 * k) * l[k].toNat ≤ 2 ^ (8 * k) * 255 := Nat.mul_le_mul_left _ (by omega)
    omega
  have e1 : IntKind.u64.wrap (IntKind.u64.wrap ((l[k].toNat : Nat) : Int) * 2 ^ (8 * k)) = ((2 ^ (8 * k) * l[k].toNat : Nat) : Int) := by
    have e0 : IntKind.u64.wrap ((l[k].toNat : Nat) : Int) = ((l[k].toNat : Nat) : Int) := by rw [IntKind.wrap_u64]; omega
    have e2 : ((l[k].toNat : Nat) : Int) * 2 ^ (8 * k) = ((2 ^ (8 * k) * l[k].toNat : Nat) : Int) := by
      rw [Int.natCast_mul, Int.natCast_pow, Int.mul_comm]
      rfl
    rw [e0, e2, IntKind.wrap_u64]
    omega
  rw [e1, u64_or_nat _ _ (by omega) hm, Nat.or_comm, nat_join (8 * k) _ _ (by simp) h1]
  rw [List.take_succ_eq_append_getElem hk, leN_snoc, List.length_take, Nat.min_eq_left (by omega), pow_256]
  rw [Nat.add_comm]

set_option maxHeartbeats 400000 in
theorem number_calls (s : ByteArray) (w : World) (hs : s.size ≤ 8) :
    Calls Try.prog 79 #[.string s] w fun e w' => e = .returned (.int .u64 (leN s.data.toList : Nat)) ∧ w = w' := by
  go_enter Try.func79, Try.ntmps79
  go_wp2
  go_loop [3, 7] (fun v i => ∃ k : Nat, k ≤ s.size ∧ i = .int .i64 k ∧ v = .int .u64 (leN (s.data.toList.take k) : Nat)) (fun _ i => s.size - (intOf i).toNat)
  case atStart => exact ⟨0, by omega, rfl, rfl⟩
  case round =>
    obtain ⟨k, hk, rfl, rfl⟩ := hrel
    by_cases hlt : k < s.size
    · have hs' : k < s.data.toList.length := by simpa using hlt
      have HS := Lib.hid (leN_step hs' (by omega))
      have hE := Lib.hid (show s.data.toList[k] = s[k] by simp [ByteArray.getElem_eq_getElem_data])
      generalize leN (s.data.toList.take k) = t at HS
      go_wp2
      go_round
      case rel => exact ⟨k + 1, by omega, by go_num, by rw [← HS.out, hE.out]⟩
      case measure => simp [intOf]; omega
    · generalize ht : leN (s.data.toList.take k) = t
      have HT := Lib.hid ht
      clear ht
      go_wp2
      go_ret
      exact ⟨ret_int (by rw [← HT.out, List.take_of_length_le (by simp; omega)]), rfl⟩

/-- What is left of an In whose two cells are the block b. -/
def InIs (w : World) (b : Nat) (l : List UInt8) (bad : Bool) : Prop :=
  w.cell? ⟨b, 0, none⟩ = some (.string ⟨l.toArray⟩) ∧ w.cell? ⟨b, 1, none⟩ = some (.bool bad) ∧ w.frozen? ⟨b, 0, none⟩ = false ∧ w.frozen? ⟨b, 1, none⟩ = false ∧ l.length ≤ 9223372036854775807 ∧ (bad = true → l = [])

set_option maxHeartbeats 400000 in
theorem left_calls (b : Nat) (l : List UInt8) (bad : Bool) (w : World) (h : InIs w b l bad) :
    Calls Try.prog 75 #[.pointer (some ⟨b, 0, none⟩)] w fun e w' => e = .returned (.int .i64 (l.length : Nat)) ∧ w = w' := by
  obtain ⟨h0, h1, f0, f1, hl, hb⟩ := h
  clear hb
  go_enter Try.func75, Try.ntmps75
  go_wp2
  go_ret
  exact ⟨rfl, rfl⟩

set_option maxHeartbeats 400000 in
theorem left_nil (w : World) :
    Calls Try.prog 75 #[.pointer none] w fun e w' => e = .returned (.int .i64 0) ∧ w = w' := by
  go_enter Try.func75, Try.ntmps75
  go_wp2
  go_ret
  exact ⟨rfl, rfl⟩

set_option maxHeartbeats 400000 in
theorem bad_calls (b : Nat) (l : List UInt8) (bad : Bool) (w : World) (h : InIs w b l bad) :
    Calls Try.prog 74 #[.pointer (some ⟨b, 0, none⟩)] w fun e w' => e = .returned (.bool bad) ∧ w = w' := by
  obtain ⟨h0, h1, f0, f1, hl, hb⟩ := h
  clear hb
  go_enter Try.func74, Try.ntmps74
  go_wp2
  go_ret
  exact ⟨rfl, rfl⟩

set_option maxHeartbeats 400000 in
theorem bad_nil (w : World) :
    Calls Try.prog 74 #[.pointer none] w fun e w' => e = .returned (.bool true) ∧ w = w' := by
  go_enter Try.func74, Try.ntmps74
  go_wp2
  go_ret
  exact ⟨rfl, rfl⟩

theorem setCell_kept (w : World) (b i : Nat) (v : Value) : w.grownBy (w.setCell ⟨b, i, none⟩ v) (some b) :=
  ⟨rfl, rfl, rfl, by simp [World.setCell], fun k _ hk => Below.heap_setCell _ _ _ _ (by intro e; exact hk (by rw [e]))⟩

theorem grown_trans {a b c : World} {r : Option Nat} (h : a.grownBy b r) (k : b.grownBy c r) : a.grownBy c r :=
  ⟨k.os.trans h.os, k.tape.trans h.tape, k.output.trans h.output, Nat.le_trans h.size k.size, fun i hi hr => (k.block i (Nat.lt_of_lt_of_le hi h.size) hr).trans (h.block i hi hr)⟩

theorem InIs.lt {w : World} {b : Nat} {l : List UInt8} {bad : Bool} (h : InIs w b l bad) : b < w.heap.size := World.block_lt_of_cell? _ _ h.1

theorem InIs.same {w w' : World} {b : Nat} {l : List UInt8} {bad : Bool} (h : InIs w b l bad) (hb : w'.heap[b]? = w.heap[b]?) : InIs w' b l bad := by
  obtain ⟨h0, h1, f0, f1, hl⟩ := h
  exact ⟨(World.cell?_of_block (a := ⟨b, 0, none⟩) hb).trans h0, (World.cell?_of_block (a := ⟨b, 1, none⟩) hb).trans h1,
    (World.frozen?_of_block (a := ⟨b, 0, none⟩) hb).trans f0, (World.frozen?_of_block (a := ⟨b, 1, none⟩) hb).trans f1, hl⟩

/-- The two cells of an In are written anew. -/
theorem InIs.set {w : World} {b : Nat} {l : List UInt8} {bad : Bool} (h : InIs w b l bad) (l' : List UInt8) (hl : l'.length ≤ 9223372036854775807) (hb : bad = true → l' = []) : InIs (w.setCell ⟨b, 0, none⟩ (.string ⟨l'.toArray⟩)) b l' bad := by
  obtain ⟨h0, h1, f0, f1, _⟩ := h
  exact ⟨World.cell?_setCell_same _ _ _ h0, by rw [World.cell?_setCell_other _ _ _ _ (by simp)]; exact h1, by rw [World.frozen?_setCell]; exact f0, by rw [World.frozen?_setCell]; exact f1, hl, hb⟩

theorem InIs.spoilt {w : World} {b : Nat} {l : List UInt8} {bad : Bool} (h : InIs w b l bad) : InIs ((w.setCell ⟨b, 0, none⟩ (.string ⟨#[]⟩)).setCell ⟨b, 1, none⟩ (.bool true)) b [] true := by
  obtain ⟨h0, h1, f0, f1, _⟩ := h
  have g0 : (w.setCell ⟨b, 0, none⟩ (.string ⟨#[]⟩)).cell? ⟨b, 1, none⟩ = some (.bool bad) := by rw [World.cell?_setCell_other _ _ _ _ (by simp)]; exact h1
  refine ⟨?_, World.cell?_setCell_same _ _ _ g0, by rw [World.frozen?_setCell, World.frozen?_setCell]; exact f0, by rw [World.frozen?_setCell, World.frozen?_setCell]; exact f1, by simp, fun _ => rfl⟩
  rw [World.cell?_setCell_other _ _ _ _ (by simp)]
  exact World.cell?_setCell_same _ _ _ h0

set_option maxHeartbeats 400000 in
theorem spoil_calls (b : Nat) (l : List UInt8) (bad : Bool) (w : World) (h : InIs w b l bad) :
    Calls Try.prog 81 #[.pointer (some ⟨b, 0, none⟩)] w fun e w' => e = .returned (.tuple #[]) ∧ InIs w' b [] true ∧ w.grownBy w' (some b) := by
  have hsp := h.spoilt
  have hg : w.grownBy ((w.setCell ⟨b, 0, none⟩ (.string ⟨#[]⟩)).setCell ⟨b, 1, none⟩ (.bool true)) (some b) := grown_trans (setCell_kept _ _ _ _) (setCell_kept _ _ _ _)
  have HS := Lib.hid hsp
  have HG := Lib.hid hg
  obtain ⟨h0, h1, f0, f1, hl, hb⟩ := h
  clear hb hsp hg
  go_enter Try.func81, Try.ntmps81
  go_wp2
  go_end0
  exact ⟨rfl, HS.out, HG.out⟩

set_option maxHeartbeats 400000 in
theorem spoil_nil (w : World) :
    Calls Try.prog 81 #[.pointer none] w fun e w' => e = .returned (.tuple #[]) ∧ w = w' := by
  go_enter Try.func81, Try.ntmps81
  go_wp2
  go_end0
  exact ⟨rfl, rfl⟩

theorem take_ext (l : List UInt8) (n : Nat) : (⟨l.toArray⟩ : ByteArray).extract 0 n = ⟨(l.take n).toArray⟩ := by rw [ByteArray.extract_mk]; simp
theorem drop_ext (l : List UInt8) (n : Nat) : (⟨l.toArray⟩ : ByteArray).extract n l.length = ⟨(l.drop n).toArray⟩ := by
  rw [ByteArray.extract_mk, List.take_of_length_le (by simp)]

/-- Is there as much? -/
def canTake (l : List UInt8) (bad : Bool) (n : Nat) : Bool := !bad && decide (n ≤ l.length)
/-- What is taken; what is left. -/
def taken (l : List UInt8) (bad : Bool) (n : Nat) : List UInt8 := if canTake l bad n = true then l.take n else []
def after (l : List UInt8) (bad : Bool) (n : Nat) : List UInt8 := if canTake l bad n = true then l.drop n else []

set_option maxHeartbeats 1000000 in
theorem take_calls (b n : Nat) (l : List UInt8) (bad : Bool) (w : World) (h : InIs w b l bad) (hn : n ≤ 65535) :
    Calls Try.prog 80 #[.pointer (some ⟨b, 0, none⟩), .int .i64 (n : Int)] w fun e w' => e = .returned (.string ⟨(taken l bad n).toArray⟩) ∧ InIs w' b (after l bad n) (!canTake l bad n) ∧ w.grownBy w' (some b) := by
  have H := Lib.hid h
  have hl := h.2.2.2.2.1
  have hbl := h.2.2.2.2.2
  clear h
  by_cases hc : canTake l bad n = true
  · have hbad : bad = false := by simp [canTake] at hc; exact hc.1
    have hle : n ≤ l.length := by simp [canTake] at hc; exact hc.2
    subst hbad
    have HT := Lib.hid (show taken l false n = l.take n by rw [taken, if_pos hc])
    have HA := Lib.hid (show after l false n = l.drop n by rw [after, if_pos hc])
    have HC := Lib.hid hc
    have HB := Lib.hid (H.out.set (l.drop n) (by simp; omega) (by simp))
    have HG := Lib.hid (setCell_kept w b 0 (.string ⟨(l.drop n).toArray⟩))
    obtain ⟨h0, h1, f0, f1, _⟩ := H.out
    clear hc hbl
    have hle' : (n : Int) ≤ (l.length : Int) := by omega
    go_enter Try.func80, Try.ntmps80
    go_wp2_with (first | (go_at_call 75; refine (left_calls b l false _ H.out).mono ?_; rintro e w' ⟨rfl, rfl⟩) | (go_at_call 74; refine (bad_calls b l false _ H.out).mono ?_; rintro e w' ⟨rfl, rfl⟩))
    go_ret
    rw [HT.out, HA.out, HC.out, ← take_ext, drop_ext]
    exact ⟨rfl, HB.out, HG.out⟩
  · have HT := Lib.hid (show taken l bad n = [] by rw [taken, if_neg hc])
    have HA := Lib.hid (show after l bad n = [] by rw [after, if_neg hc])
    have HC := Lib.hid (show canTake l bad n = false by simpa using hc)
    cases bad with
    | true =>
      obtain rfl := hbl rfl
      by_cases h0 : n = 0
      · subst h0
        clear hc hbl
        go_enter Try.func80, Try.ntmps80
        go_wp2_with (first | (go_at_call 75; refine (left_calls b [] true _ H.out).mono ?_; rintro e w' ⟨rfl, rfl⟩) | (go_at_call 74; refine (bad_calls b [] true _ H.out).mono ?_; rintro e w' ⟨rfl, rfl⟩))
        go_ret
        rw [HT.out, HA.out, HC.out]
        exact ⟨rfl, H.out, World.grownBy.refl _ _⟩
      · have hpos : (0 : Int) < (n : Int) := by omega
        clear hc hbl
        go_enter Try.func80, Try.ntmps80
        go_wp2_with (first | (go_at_call 75; refine (left_calls b [] true _ H.out).mono ?_; rintro e w' ⟨rfl, rfl⟩))
        refine (spoil_calls b [] true _ H.out).mono ?_
        rintro e w1 ⟨rfl, hin, hg⟩
        have H1 := Lib.hid hin
        have G1 := Lib.hid hg
        clear hin hg
        go_wp2_with (first | (go_at_call 74; refine (bad_calls b [] true _ H1.out).mono ?_; rintro e w' ⟨rfl, rfl⟩))
        go_ret
        rw [HT.out, HA.out, HC.out]
        exact ⟨rfl, H1.out, G1.out⟩
    | false =>
      have hpos : (l.length : Int) < (n : Int) := by simp [canTake] at hc; omega
      clear hc hbl
      go_enter Try.func80, Try.ntmps80
      go_wp2_with (first | (go_at_call 75; refine (left_calls b l false _ H.out).mono ?_; rintro e w' ⟨rfl, rfl⟩))
      refine (spoil_calls b l false _ H.out).mono ?_
      rintro e w1 ⟨rfl, hin, hg⟩
      have H1 := Lib.hid hin
      have G1 := Lib.hid hg
      clear hin hg
      go_wp2_with (first | (go_at_call 74; refine (bad_calls b [] true _ H1.out).mono ?_; rintro e w' ⟨rfl, rfl⟩))
      go_ret
      rw [HT.out, HA.out, HC.out]
      exact ⟨rfl, H1.out, G1.out⟩

theorem taken_len (l : List UInt8) (bad : Bool) (n : Nat) : (taken l bad n).length ≤ n := by
  unfold taken
  split <;> simp
  omega

theorem size_mk (l : List UInt8) : (⟨l.toArray⟩ : ByteArray).size = l.length := by simp [ByteArray.size]

theorem number_list (t : List UInt8) (w : World) (h : t.length ≤ 8) :
    Calls Try.prog 79 #[.string ⟨t.toArray⟩] w fun e w' => e = .returned (.int .u64 (leN t : Nat)) ∧ w = w' :=
  number_calls ⟨t.toArray⟩ w (by rw [size_mk]; exact h)

theorem number_empty (w : World) :
    Calls Try.prog 79 #[.string ⟨#[]⟩] w fun e w' => e = .returned (.int .u64 0) ∧ w = w' :=
  number_list [] w (by simp)

theorem leN_lt' {l : List UInt8} {n : Nat} (h : l.length ≤ n) : leN l < 256 ^ n := Nat.lt_of_lt_of_le (leN_lt l) (Nat.pow_le_pow_right (by omega) h)

set_option maxHeartbeats 400000 in
theorem small_in (b : Nat) (l : List UInt8) (bad : Bool) (w : World) (h : InIs w b l bad) :
    Calls Try.prog 69 #[.pointer (some ⟨b, 0, none⟩)] w fun e w' => e = .returned (.int .i64 (leN (taken l bad 2) : Nat)) ∧ InIs w' b (after l bad 2) (!canTake l bad 2) ∧ w.grownBy w' (some b) := by
  have hl := leN_lt' (taken_len l bad 2)
  have hsz := taken_len l bad 2
  have C := Lib.hid (take_calls b 2 l bad w h (by omega))
  clear h
  generalize taken l bad 2 = t at *
  have N := Lib.hid (fun wx : World => number_list t wx (by omega))
  have hw : wrap64 ((leN t : Nat) : Int) = ((leN t : Nat) : Int) := IntWalk.wrap64_in _ ⟨by omega, by omega⟩
  generalize leN t = v at *
  go_enter Try.func69, Try.ntmps69
  go_wp2_with fail
  refine C.out.mono ?_
  rintro e w1 ⟨rfl, hin, hg⟩
  have H1 := Lib.hid hin
  have G1 := Lib.hid hg
  clear hin hg C
  go_wp2_with fail
  refine (N.out _).mono ?_
  rintro e w2 ⟨rfl, rfl⟩
  clear N
  go_wp2
  go_ret
  exact ⟨rfl, H1.out, G1.out⟩

theorem wrap_i64_u64 (v : Nat) (h : v < 18446744073709551616) : wrap64 (v : Int) = if v < 9223372036854775808 then (v : Int) else (v : Int) - 18446744073709551616 := by
  unfold wrap64
  split <;> omega

/-- Eight bytes as a number with its sign. -/
def longN (l : List UInt8) : Int := wrap64 (leN l : Nat)

set_option maxHeartbeats 400000 in
theorem long_in (b : Nat) (l : List UInt8) (bad : Bool) (w : World) (h : InIs w b l bad) :
    Calls Try.prog 70 #[.pointer (some ⟨b, 0, none⟩)] w fun e w' => e = .returned (.int .i64 (longN (taken l bad 8))) ∧ InIs w' b (after l bad 8) (!canTake l bad 8) ∧ w.grownBy w' (some b) := by
  have hl := leN_lt' (taken_len l bad 8)
  have hsz := taken_len l bad 8
  have C := Lib.hid (take_calls b 8 l bad w h (by omega))
  clear h
  unfold longN
  generalize taken l bad 8 = t at *
  have N := Lib.hid (fun wx : World => number_list t wx (by omega))
  generalize leN t = v at *
  clear hl
  go_enter Try.func70, Try.ntmps70
  go_wp2_with fail
  refine C.out.mono ?_
  rintro e w1 ⟨rfl, hin, hg⟩
  have H1 := Lib.hid hin
  have G1 := Lib.hid hg
  clear hin hg C
  go_wp2_with fail
  refine (N.out _).mono ?_
  rintro e w2 ⟨rfl, rfl⟩
  clear N
  go_wp2
  go_ret
  exact ⟨rfl, H1.out, G1.out⟩

/-- The text that is next; what is left. -/
def textT (l : List UInt8) (bad : Bool) : List UInt8 := taken (after l bad 2) (!canTake l bad 2) (leN (taken l bad 2))
def textA (l : List UInt8) (bad : Bool) : List UInt8 := after (after l bad 2) (!canTake l bad 2) (leN (taken l bad 2))
def textC (l : List UInt8) (bad : Bool) : Bool := canTake (after l bad 2) (!canTake l bad 2) (leN (taken l bad 2))

set_option maxHeartbeats 400000 in
theorem text_in (b : Nat) (l : List UInt8) (bad : Bool) (w : World) (h : InIs w b l bad) :
    Calls Try.prog 76 #[.pointer (some ⟨b, 0, none⟩)] w fun e w' => e = .returned (.string ⟨(textT l bad).toArray⟩) ∧ InIs w' b (textA l bad) (!textC l bad) ∧ w.grownBy w' (some b) := by
  have hl := leN_lt' (taken_len l bad 2)
  have C := Lib.hid (small_in b l bad w h)
  clear h
  unfold textT textA textC
  generalize after l bad 2 = l1 at *
  generalize canTake l bad 2 = c1 at *
  generalize leN (taken l bad 2) = v at *
  go_enter Try.func76, Try.ntmps76
  go_wp2_with fail
  refine C.out.mono ?_
  rintro e w1 ⟨rfl, hin, hg⟩
  have H1 := Lib.hid hin
  have G1 := Lib.hid hg
  clear hin hg C
  go_wp2_with fail
  refine (take_calls b v l1 (!c1) _ H1.out (by omega)).mono ?_
  rintro e w2 ⟨rfl, hin2, hg2⟩
  have H2 := Lib.hid hin2
  have G2 := Lib.hid (grown_trans G1.out hg2)
  clear hin2 hg2
  go_wp2
  go_ret
  exact ⟨rfl, H2.out, G2.out⟩

/-- The truth that is next; whether it is one. -/
def truthV (l : List UInt8) (bad : Bool) : Bool := leN (taken l bad 1) == 1
def truthC (l : List UInt8) (bad : Bool) : Bool := canTake l bad 1 && decide (leN (taken l bad 1) ≤ 1)
def truthA (l : List UInt8) (bad : Bool) : List UInt8 := if leN (taken l bad 1) ≤ 1 then after l bad 1 else []

set_option maxHeartbeats 400000 in
theorem truth_in (b : Nat) (l : List UInt8) (bad : Bool) (w : World) (h : InIs w b l bad) :
    Calls Try.prog 71 #[.pointer (some ⟨b, 0, none⟩)] w fun e w' => e = .returned (.bool (truthV l bad)) ∧ InIs w' b (truthA l bad) (!truthC l bad) ∧ w.grownBy w' (some b) := by
  have hsz := taken_len l bad 1
  have C := Lib.hid (take_calls b 1 l bad w h (by omega))
  clear h
  unfold truthV truthA truthC
  generalize after l bad 1 = l1 at *
  generalize canTake l bad 1 = c1 at *
  generalize taken l bad 1 = t at *
  have N := Lib.hid (fun wx : World => number_list t wx (by omega))
  generalize leN t = v at *
  by_cases hv : v ≤ 1
  · have hle : ¬ (1 : Int) < (v : Int) := by omega
    go_enter Try.func71, Try.ntmps71
    go_wp2_with fail
    refine C.out.mono ?_
    rintro e w1 ⟨rfl, hin, hg⟩
    have H1 := Lib.hid hin
    have G1 := Lib.hid hg
    clear hin hg C
    go_wp2_with fail
    refine (N.out _).mono ?_
    rintro e w2 ⟨rfl, rfl⟩
    clear N
    go_wp2
    go_ret
    exact ⟨ret_bool (by rw [Bool.eq_iff_iff]; simp; omega), H1.out, G1.out⟩
  · have hlt : (1 : Int) < (v : Int) := by omega
    go_enter Try.func71, Try.ntmps71
    go_wp2_with fail
    refine C.out.mono ?_
    rintro e w1 ⟨rfl, hin, hg⟩
    have H1 := Lib.hid hin
    have G1 := Lib.hid hg
    clear hin hg C
    go_wp2_with fail
    refine (N.out _).mono ?_
    rintro e w2 ⟨rfl, rfl⟩
    clear N
    go_wp2_with fail
    refine (spoil_calls b l1 (!c1) _ H1.out).mono ?_
    rintro e w3 ⟨rfl, hin, hg⟩
    have H2 := Lib.hid hin
    have G2 := Lib.hid (grown_trans G1.out hg)
    clear hin hg
    go_wp2
    go_ret
    exact ⟨ret_bool (by rw [Bool.eq_iff_iff]; simp; omega), H2.out, G2.out⟩

set_option maxHeartbeats 400000 in
theorem end_calls (b : Nat) (l : List UInt8) (bad : Bool) (w : World) (h : InIs w b l bad) :
    Calls Try.prog 61 #[.pointer (some ⟨b, 0, none⟩)] w fun e w' => e = .returned (.bool (!bad && decide (l = []))) ∧ w = w' := by
  have H := Lib.hid h
  clear h
  cases bad with
  | true =>
    go_enter Try.func61, Try.ntmps61
    go_wp2_with (first | (go_at_call 74; refine (bad_calls b l true _ H.out).mono ?_; rintro e w' ⟨rfl, rfl⟩))
    go_ret
    exact ⟨rfl, rfl⟩
  | false =>
    go_enter Try.func61, Try.ntmps61
    go_wp2_with (first | (go_at_call 74; refine (bad_calls b l false _ H.out).mono ?_; rintro e w' ⟨rfl, rfl⟩) | (go_at_call 75; refine (left_calls b l false _ H.out).mono ?_; rintro e w' ⟨rfl, rfl⟩))
    go_ret
    exact ⟨ret_bool (by cases l <;> simp; omega), rfl⟩

set_option maxHeartbeats 400000 in
/-- A nil In. -/
theorem take_nil (n : Nat) (w : World) (hn : n ≤ 65535) :
    Calls Try.prog 80 #[.pointer none, .int .i64 (n : Int)] w fun e w' => e = .returned (.string ⟨#[]⟩) ∧ w = w' := by
  by_cases h0 : n = 0
  · subst h0
    go_enter Try.func80, Try.ntmps80
    go_wp2_with (first | (go_at_call 75; refine (left_nil _).mono ?_; rintro e w' ⟨rfl, rfl⟩) | (go_at_call 74; refine (bad_nil _).mono ?_; rintro e w' ⟨rfl, rfl⟩))
    go_ret
    exact ⟨rfl, rfl⟩
  · have hpos : (0 : Int) < (n : Int) := by omega
    go_enter Try.func80, Try.ntmps80
    go_wp2_with (first | (go_at_call 75; refine (left_nil _).mono ?_; rintro e w' ⟨rfl, rfl⟩) | (go_at_call 74; refine (bad_nil _).mono ?_; rintro e w' ⟨rfl, rfl⟩) | (go_at_call 81; refine (spoil_nil _).mono ?_; rintro e w' ⟨rfl, rfl⟩))
    go_ret
    exact ⟨rfl, rfl⟩

set_option maxHeartbeats 400000 in
theorem small_nil (w : World) :
    Calls Try.prog 69 #[.pointer none] w fun e w' => e = .returned (.int .i64 0) ∧ w = w' := by
  go_enter Try.func69, Try.ntmps69
  go_wp2_with (first | (go_at_call 80; refine (take_nil 2 _ (by omega)).mono ?_; rintro e w' ⟨rfl, rfl⟩) | (go_at_call 79; refine (number_empty _).mono ?_; rintro e w' ⟨rfl, rfl⟩))
  go_ret
  exact ⟨rfl, rfl⟩

set_option maxHeartbeats 400000 in
theorem long_nil (w : World) :
    Calls Try.prog 70 #[.pointer none] w fun e w' => e = .returned (.int .i64 0) ∧ w = w' := by
  go_enter Try.func70, Try.ntmps70
  go_wp2_with (first | (go_at_call 80; refine (take_nil 8 _ (by omega)).mono ?_; rintro e w' ⟨rfl, rfl⟩) | (go_at_call 79; refine (number_empty _).mono ?_; rintro e w' ⟨rfl, rfl⟩))
  go_ret
  exact ⟨rfl, rfl⟩

set_option maxHeartbeats 400000 in
theorem text_nil (w : World) :
    Calls Try.prog 76 #[.pointer none] w fun e w' => e = .returned (.string ⟨#[]⟩) ∧ w = w' := by
  go_enter Try.func76, Try.ntmps76
  go_wp2_with (first | (go_at_call 69; refine (small_nil _).mono ?_; rintro e w' ⟨rfl, rfl⟩) | (go_at_call 80; refine (take_nil 0 _ (by omega)).mono ?_; rintro e w' ⟨rfl, rfl⟩))
  go_ret
  exact ⟨rfl, rfl⟩

set_option maxHeartbeats 400000 in
theorem truth_nil (w : World) :
    Calls Try.prog 71 #[.pointer none] w fun e w' => e = .returned (.bool false) ∧ w = w' := by
  go_enter Try.func71, Try.ntmps71
  go_wp2_with (first | (go_at_call 80; refine (take_nil 1 _ (by omega)).mono ?_; rintro e w' ⟨rfl, rfl⟩) | (go_at_call 79; refine (number_empty _).mono ?_; rintro e w' ⟨rfl, rfl⟩))
  go_ret
  exact ⟨rfl, rfl⟩

set_option maxHeartbeats 400000 in
theorem end_nil (w : World) :
    Calls Try.prog 61 #[.pointer none] w fun e w' => e = .returned (.bool false) ∧ w = w' := by
  go_enter Try.func61, Try.ntmps61
  go_wp2_with (first | (go_at_call 74; refine (bad_nil _).mono ?_; rintro e w' ⟨rfl, rfl⟩))
  go_ret
  exact ⟨rfl, rfl⟩

theorem nil_text (w : World) : (convert 24 9 (.slice none 0 0)).run Try.prog w = .ok (.string ⟨#[]⟩) w := by kernel_rfl

theorem read_is (w : World) (l : List UInt8) (hl : l.length ≤ 9223372036854775807) : InIs (w.alloc (.cells #[.string ⟨l.toArray⟩, .bool false] 89)) w.heap.size l false :=
  ⟨by rw [World.cell?_alloc_at (hn := rfl)]; rfl, by rw [World.cell?_alloc_at (hn := rfl)]; rfl, by rw [World.frozen?_alloc_at (hn := rfl)], by rw [World.frozen?_alloc_at (hn := rfl)], hl, by simp⟩

set_option maxHeartbeats 400000 in
theorem read_calls (ao : Option Addr) (c : Nat) (l : List UInt8) (w : World) (h : Sl w ao c l) :
    Calls Try.prog 59 #[.slice ao l.length c] w fun e w' => e = .returned (.pointer (some ⟨w.heap.size, 0, none⟩)) ∧ InIs w' w.heap.size l false ∧ Below w.heap.size w w' := by
  have hm := h.le
  unfold maxLen at hm
  have HR := Lib.hid (read_is w l (by omega))
  have HB := Lib.hid (new_below w (.cells #[.string ⟨l.toArray⟩, .bool false] 89))
  rcases h with ⟨rfl, rfl, rfl⟩ | ⟨A, rfl, _, _, hc⟩
  · have hc0 := nil_text w
    go_enter Try.func59, Try.ntmps59
    go_wp2
    go_ret
    exact ⟨rfl, HR.out, HB.out⟩
  · have hconv := run_convert_bytes_back (P := Try.prog) w 24 9 5 A c l Try.underlying24 Try.underlying5 Try.underlying9 (fun j hj => by rw [hc j hj]; simp [List.getD, hj])
    clear hc
    go_enter Try.func59, Try.ntmps59
    go_wp2
    go_ret
    exact ⟨rfl, HR.out, HB.out⟩

end Go.Proofs.Ytanjbbmgpodbgaa
