/-
  The walk of the law's own one: it reads what was put; of what was cut off it makes the In bad.
-/
import Derived.Test.YtheolfmalcckmaaOps2
import Derived.Deep.RegionWith
namespace Go.Proofs.Ytheolfmalcckmaa
open Go.RowKit Go.ChangeShapes Go.WideShapes Go.ChangeAt Go.Deep

theorem text_front (t r : List UInt8) (h : t.length ≤ 60) : textT (shortB t ++ r) false = t ∧ textA (shortB t ++ r) false = r ∧ textC (shortB t ++ r) false = true := by
  unfold textT textA textC shortB
  rw [List.append_assoc]
  obtain ⟨h1, h2, h3⟩ := taken_front (smallB (t.length : Nat)) (t ++ r) 2 rfl
  rw [h1, h2, h3, leN_small]
  have e : ((t.length : Int) % 65536).toNat = t.length := by omega
  rw [e]
  exact taken_front t r t.length rfl

theorem truth_front (v : Bool) (r : List UInt8) : truthV ([if v = true then 1 else 0] ++ r) false = v ∧ truthA ([if v = true then 1 else 0] ++ r) false = r ∧ truthC ([if v = true then 1 else 0] ++ r) false = true := by
  obtain ⟨h1, h2, h3⟩ := taken_front [if v = true then (1 : UInt8) else 0] r 1 rfl
  unfold truthV truthA truthC
  rw [h1, h2, h3]
  cases v <;> simp [leN]

theorem block_old {w : World} {b : Nat} {o : Obj} (h : b < w.heap.size) : (w.alloc o).heap[b]? = w.heap[b]? := (new_below w o).block b h

theorem InIs.new {w : World} {b : Nat} {l : List UInt8} {bad : Bool} (h : InIs w b l bad) (o : Obj) : InIs (w.alloc o) b l bad := h.same (block_old h.lt)

theorem grown_drew {a c : World} {o : Obj} {r : Option Nat} (h : (a.alloc o).drew.grownBy c r) : a.grownBy c r :=
  grown_trans (World.grownBy_alloc a o r) ⟨h.os, h.tape, h.output, h.size, h.block⟩

theorem opB_eq (kd n : Int) (s : ByteArray) : opB ⟨kd, n, s⟩ = if kd = 0 then smallB n else if kd = 1 then longB n else if kd = 2 then shortB (cutB s) else [if n % 2 = 1 then 1 else 0] := rfl

theorem same_text {ct : List UInt8} {x s : ByteArray} (h1 : Hid (x.data.toList = s.data.toList.take 60)) (h2 : Hid (cutB s = ct)) : (ct == x.toList) = true := by
  rw [← h2.out, ByteArray.toList_eq, h1.out]
  simp [cutB]

/-! ### Cut off -/

theorem short_take (l : List UInt8) (n : Nat) (h : l.length < n) : taken l false n = [] ∧ after l false n = [] ∧ canTake l false n = false := by
  have hc : canTake l false n = false := by simp [canTake]; omega
  have hn : ¬ canTake l false n = true := by rw [hc]; simp
  exact ⟨by rw [taken, if_neg hn], by rw [after, if_neg hn], hc⟩

theorem text_short (t l : List UInt8) (h : t.length ≤ 60) (hp : l <+: shortB t) (hl : l.length < (shortB t).length) : textA l false = [] ∧ textC l false = false := by
  unfold textA textC
  by_cases h2 : l.length < 2
  · obtain ⟨h1, h2, h3⟩ := short_take l 2 h2
    rw [h1, h2, h3]
    exact ⟨rfl, rfl⟩
  · obtain ⟨r, hr⟩ := hp
    have e : l = smallB (t.length : Nat) ++ l.drop 2 := by
      have h3 : l.take 2 = smallB (t.length : Nat) := by
        have := congrArg (List.take 2) hr
        rw [List.take_append_of_le_length (by omega)] at this
        rw [this]
        rfl
      rw [← h3, List.take_append_drop]
    generalize l.drop 2 = l' at *
    subst e
    obtain ⟨h1, h2, h3⟩ := taken_front (smallB (t.length : Nat)) l' 2 rfl
    rw [h1, h2, h3, leN_small]
    have e : ((t.length : Int) % 65536).toNat = t.length := by omega
    rw [e]
    have hl' : l'.length < t.length := by
      simp only [shortB, List.length_append] at hl
      omega
    obtain ⟨h4, h5, h6⟩ := short_take l' t.length hl'
    exact ⟨h5, h6⟩

set_option maxHeartbeats 1000000 in
/-- A small number that was put. -/
theorem one_small (b : Nat) (n : Int) (s : ByteArray) (r : List UInt8) (w : World) (hi : InIs w b (smallB n ++ r) false) :
    Calls Try.prog 24 #[.pointer (some ⟨b, 0, none⟩), .agg #[.int .i64 0, .int .i64 n, .string s]] w fun e w' => e = .returned (.bool true) ∧ InIs w' b r false ∧ w.grownBy w' (some b) := by
  have HI := Lib.hid (fun o => show InIs (World.drew (w.alloc o)) b _ false from hi.new o)
  have hlt := hi.lt
  have m1 := i64_and65535 n
  have C := Lib.hid (fun wx h => small_in b (smallB n ++ r) false wx h)
  obtain ⟨h1, h2, h3⟩ := taken_front (smallB n) r 2 rfl
  rw [h1, h2, h3, leN_small, Int.toNat_of_nonneg (by omega)] at C
  clear hi h1 h2 h3
  go_enter Try.func24, Try.ntmps24
  go_wp2_with fail
  go_region_with (first | (go_at_call 29; refine (C.out _ (HI.out _)).mono ?_; rintro e w1 ⟨rfl, hin, hg⟩; have hc1 := hg.cell (a := ⟨w.heap.size, 1, none⟩) (v := .int .i64 n) (by go_simp) (by simp; omega); have G1 : Hid (w.grownBy w1 (some b)) := grown_drew hg; have I1 : Hid (InIs w1 b r false) := hin; clear hin hg))
  all_goals (go_wp2; go_ret)
  all_goals exact ⟨rfl, Hid.out (by assumption), Hid.out (by assumption)⟩

set_option maxHeartbeats 1000000 in
/-- A long number that was put. -/
theorem one_long (b : Nat) (n : Int) (s : ByteArray) (r : List UInt8) (w : World) (hn : -9223372036854775808 ≤ n ∧ n ≤ 9223372036854775807) (hi : InIs w b (longB n ++ r) false) :
    Calls Try.prog 24 #[.pointer (some ⟨b, 0, none⟩), .agg #[.int .i64 1, .int .i64 n, .string s]] w fun e w' => e = .returned (.bool true) ∧ InIs w' b r false ∧ w.grownBy w' (some b) := by
  have HI := Lib.hid (fun o => show InIs (World.drew (w.alloc o)) b _ false from hi.new o)
  have hlt := hi.lt
  have C := Lib.hid (fun wx h => long_in b (longB n ++ r) false wx h)
  obtain ⟨h1, h2, h3⟩ := taken_front (longB n) r 8 rfl
  rw [h1, h2, h3, longN_long n hn] at C
  clear hi h1 h2 h3
  go_enter Try.func24, Try.ntmps24
  go_wp2_with fail
  go_region_with (first | (go_at_call 31; refine (C.out _ (HI.out _)).mono ?_; rintro e w1 ⟨rfl, hin, hg⟩; have hc1 := hg.cell (a := ⟨w.heap.size, 1, none⟩) (v := .int .i64 n) (by go_simp) (by simp; omega); have G1 : Hid (w.grownBy w1 (some b)) := grown_drew hg; have I1 : Hid (InIs w1 b r false) := hin; clear hin hg))
  all_goals (go_wp2; go_ret)
  all_goals exact ⟨rfl, Hid.out (by assumption), Hid.out (by assumption)⟩

set_option maxHeartbeats 1000000 in
/-- A text that was put. -/
theorem one_text (b : Nat) (n : Int) (s : ByteArray) (r : List UInt8) (w : World) (hs : s.size ≤ maxLen) (hi : InIs w b (shortB (cutB s) ++ r) false) :
    Calls Try.prog 24 #[.pointer (some ⟨b, 0, none⟩), .agg #[.int .i64 2, .int .i64 n, .string s]] w fun e w' => e = .returned (.bool true) ∧ InIs w' b r false ∧ w.grownBy w' (some b) := by
  have HI := Lib.hid (fun o => show InIs (World.drew (w.alloc o)) b _ false from hi.new o)
  have hlt := hi.lt
  have C := Lib.hid (fun wx h => text_in b (shortB (cutB s) ++ r) false wx h)
  obtain ⟨h1, h2, h3⟩ := text_front (cutB s) r (cutB_le s)
  rw [h1, h2, h3] at C
  generalize hct : cutB s = ct at *
  have HCt := Lib.hid hct
  clear hi h1 h2 h3 hct
  go_enter Try.func24, Try.ntmps24
  go_wp2_with fail
  go_region_with (first | (go_at_call 33; refine (C.out _ (HI.out _)).mono ?_; rintro e w1 ⟨rfl, hin, hg⟩; have hc1 := hg.cell (a := ⟨w.heap.size, 2, none⟩) (v := .string s) (by go_simp) (by simp; omega); have G1 : Hid (w.grownBy w1 (some b)) := grown_drew hg; have I1 : Hid (InIs w1 b r false) := hin; clear hin hg) | (go_at_call 20; refine (cut_calls s 60 _ hs (by omega)).mono ?_; rintro e w2 ⟨⟨x, rfl, hxl, hxd⟩, rfl⟩; have HX := Lib.hid hxd; clear hxd))
  all_goals (go_wp2; go_ret)
  all_goals exact ⟨ret_bool (same_text (by assumption) (by assumption)), Hid.out (by assumption), Hid.out (by assumption)⟩

set_option maxHeartbeats 1000000 in
/-- A truth that was put. -/
theorem one_truth_true (b : Nat) (kd n : Int) (s : ByteArray) (r : List UInt8) (w : World) (k0 : kd ≠ 0) (k1 : kd ≠ 1) (k2 : kd ≠ 2) (hodd : (n % 2 == 1) = true) (hi : InIs w b ([if true = true then 1 else 0] ++ r) false) :
    Calls Try.prog 24 #[.pointer (some ⟨b, 0, none⟩), .agg #[.int .i64 kd, .int .i64 n, .string s]] w fun e w' => e = .returned (.bool true) ∧ InIs w' b r false ∧ w.grownBy w' (some b) := by
  have HI := Lib.hid (fun o => show InIs (World.drew (w.alloc o)) b _ false from hi.new o)
  have hlt := hi.lt
  have e0 : (kd == 0) = false := beq_eq_false_iff_ne.2 k0
  have e1 : (kd == 1) = false := beq_eq_false_iff_ne.2 k1
  have e2 : (kd == 2) = false := beq_eq_false_iff_ne.2 k2
  have m1 := i64_and1 n
  have C := Lib.hid (fun wx h => truth_in b ([if true = true then 1 else 0] ++ r) false wx h)
  obtain ⟨h1, h2, h3⟩ := truth_front true r
  rw [h1, h2, h3] at C
  clear hi h1 h2 h3 k0 k1 k2
  go_enter Try.func24, Try.ntmps24
  go_wp2_with fail
  go_region_with (first | (go_at_call 35; refine (C.out _ (HI.out _)).mono ?_; rintro e w1 ⟨rfl, hin, hg⟩; have hc1 := hg.cell (a := ⟨w.heap.size, 1, none⟩) (v := .int .i64 n) (by go_simp) (by simp; omega); have G1 : Hid (w.grownBy w1 (some b)) := grown_drew hg; have I1 : Hid (InIs w1 b r false) := hin; clear hin hg))
  all_goals (go_wp2; go_ret)
  all_goals exact ⟨rfl, Hid.out (by assumption), Hid.out (by assumption)⟩

set_option maxHeartbeats 1000000 in
/-- A truth that was put. -/
theorem one_truth_false (b : Nat) (kd n : Int) (s : ByteArray) (r : List UInt8) (w : World) (k0 : kd ≠ 0) (k1 : kd ≠ 1) (k2 : kd ≠ 2) (hodd : (n % 2 == 1) = false) (hi : InIs w b ([if false = true then 1 else 0] ++ r) false) :
    Calls Try.prog 24 #[.pointer (some ⟨b, 0, none⟩), .agg #[.int .i64 kd, .int .i64 n, .string s]] w fun e w' => e = .returned (.bool true) ∧ InIs w' b r false ∧ w.grownBy w' (some b) := by
  have HI := Lib.hid (fun o => show InIs (World.drew (w.alloc o)) b _ false from hi.new o)
  have hlt := hi.lt
  have e0 : (kd == 0) = false := beq_eq_false_iff_ne.2 k0
  have e1 : (kd == 1) = false := beq_eq_false_iff_ne.2 k1
  have e2 : (kd == 2) = false := beq_eq_false_iff_ne.2 k2
  have m1 := i64_and1 n
  have C := Lib.hid (fun wx h => truth_in b ([if false = true then 1 else 0] ++ r) false wx h)
  obtain ⟨h1, h2, h3⟩ := truth_front false r
  rw [h1, h2, h3] at C
  clear hi h1 h2 h3 k0 k1 k2
  go_enter Try.func24, Try.ntmps24
  go_wp2_with fail
  go_region_with (first | (go_at_call 35; refine (C.out _ (HI.out _)).mono ?_; rintro e w1 ⟨rfl, hin, hg⟩; have hc1 := hg.cell (a := ⟨w.heap.size, 1, none⟩) (v := .int .i64 n) (by go_simp) (by simp; omega); have G1 : Hid (w.grownBy w1 (some b)) := grown_drew hg; have I1 : Hid (InIs w1 b r false) := hin; clear hin hg))
  all_goals (go_wp2; go_ret)
  all_goals exact ⟨rfl, Hid.out (by assumption), Hid.out (by assumption)⟩

set_option maxHeartbeats 1000000 in
/-- A small number that was cut off. -/
theorem cut_small (b : Nat) (n : Int) (s : ByteArray) (l : List UInt8) (w : World) (hl : l.length < 2) (hi : InIs w b l false) :
    Calls Try.prog 24 #[.pointer (some ⟨b, 0, none⟩), .agg #[.int .i64 0, .int .i64 n, .string s]] w fun e w' => (∃ v : Bool, e = .returned (.bool v)) ∧ InIs w' b [] true ∧ w.grownBy w' (some b) := by
  have HI := Lib.hid (fun o => show InIs (World.drew (w.alloc o)) b _ false from hi.new o)
  have hlt := hi.lt
  have C := Lib.hid (fun wx h => small_in b l false wx h)
  obtain ⟨h1, h2, h3⟩ := short_take l 2 hl
  rw [h1, h2, h3] at C
  clear hi h1 h2 h3
  go_enter Try.func24, Try.ntmps24
  go_wp2_with fail
  go_region_with (first | (go_at_call 29; refine (C.out _ (HI.out _)).mono ?_; rintro e w1 ⟨rfl, hin, hg⟩; have hc1 := hg.cell (a := ⟨w.heap.size, 1, none⟩) (v := .int .i64 n) (by go_simp) (by simp; omega); have G1 : Hid (w.grownBy w1 (some b)) := grown_drew hg; have I1 : Hid (InIs w1 b [] true) := hin; clear hin hg))
  all_goals (go_wp2; go_ret)
  all_goals exact ⟨⟨_, rfl⟩, Hid.out (by assumption), Hid.out (by assumption)⟩

set_option maxHeartbeats 1000000 in
/-- A long number that was cut off. -/
theorem cut_long (b : Nat) (n : Int) (s : ByteArray) (l : List UInt8) (w : World) (hl : l.length < 8) (hi : InIs w b l false) :
    Calls Try.prog 24 #[.pointer (some ⟨b, 0, none⟩), .agg #[.int .i64 1, .int .i64 n, .string s]] w fun e w' => (∃ v : Bool, e = .returned (.bool v)) ∧ InIs w' b [] true ∧ w.grownBy w' (some b) := by
  have HI := Lib.hid (fun o => show InIs (World.drew (w.alloc o)) b _ false from hi.new o)
  have hlt := hi.lt
  have C := Lib.hid (fun wx h => long_in b l false wx h)
  obtain ⟨h1, h2, h3⟩ := short_take l 8 hl
  rw [h1, h2, h3] at C
  clear hi h1 h2 h3
  go_enter Try.func24, Try.ntmps24
  go_wp2_with fail
  go_region_with (first | (go_at_call 31; refine (C.out _ (HI.out _)).mono ?_; rintro e w1 ⟨rfl, hin, hg⟩; have hc1 := hg.cell (a := ⟨w.heap.size, 1, none⟩) (v := .int .i64 n) (by go_simp) (by simp; omega); have G1 : Hid (w.grownBy w1 (some b)) := grown_drew hg; have I1 : Hid (InIs w1 b [] true) := hin; clear hin hg))
  all_goals (go_wp2; go_ret)
  all_goals exact ⟨⟨_, rfl⟩, Hid.out (by assumption), Hid.out (by assumption)⟩

set_option maxHeartbeats 1000000 in
/-- A text that was cut off. -/
theorem cut_text (b : Nat) (n : Int) (s : ByteArray) (l : List UInt8) (w : World) (hs : s.size ≤ maxLen) (hp : l <+: shortB (cutB s)) (hl : l.length < (shortB (cutB s)).length) (hi : InIs w b l false) :
    Calls Try.prog 24 #[.pointer (some ⟨b, 0, none⟩), .agg #[.int .i64 2, .int .i64 n, .string s]] w fun e w' => (∃ v : Bool, e = .returned (.bool v)) ∧ InIs w' b [] true ∧ w.grownBy w' (some b) := by
  have HI := Lib.hid (fun o => show InIs (World.drew (w.alloc o)) b _ false from hi.new o)
  have hlt := hi.lt
  have C := Lib.hid (fun wx h => text_in b l false wx h)
  obtain ⟨h1, h2⟩ := text_short (cutB s) l (cutB_le s) hp hl
  rw [h1, h2] at C
  generalize textT l false = t at *
  clear hi h1 h2 hp hl
  go_enter Try.func24, Try.ntmps24
  go_wp2_with fail
  go_region_with (first | (go_at_call 33; refine (C.out _ (HI.out _)).mono ?_; rintro e w1 ⟨rfl, hin, hg⟩; have hc1 := hg.cell (a := ⟨w.heap.size, 2, none⟩) (v := .string s) (by go_simp) (by simp; omega); have G1 : Hid (w.grownBy w1 (some b)) := grown_drew hg; have I1 : Hid (InIs w1 b [] true) := hin; clear hin hg) | (go_at_call 20; refine (cut_calls s 60 _ hs (by omega)).mono ?_; rintro e w2 ⟨⟨x, rfl, hxl, hxd⟩, rfl⟩; have HX := Lib.hid hxd; clear hxd))
  all_goals (go_wp2; go_ret)
  all_goals exact ⟨⟨_, rfl⟩, Hid.out (by assumption), Hid.out (by assumption)⟩

set_option maxHeartbeats 1000000 in
/-- A truth that was cut off. -/
theorem cut_truth (b : Nat) (kd n : Int) (s : ByteArray) (w : World) (k0 : kd ≠ 0) (k1 : kd ≠ 1) (k2 : kd ≠ 2) (hi : InIs w b [] false) :
    Calls Try.prog 24 #[.pointer (some ⟨b, 0, none⟩), .agg #[.int .i64 kd, .int .i64 n, .string s]] w fun e w' => (∃ v : Bool, e = .returned (.bool v)) ∧ InIs w' b [] true ∧ w.grownBy w' (some b) := by
  have HI := Lib.hid (fun o => show InIs (World.drew (w.alloc o)) b _ false from hi.new o)
  have hlt := hi.lt
  have e0 : (kd == 0) = false := beq_eq_false_iff_ne.2 k0
  have e1 : (kd == 1) = false := beq_eq_false_iff_ne.2 k1
  have e2 : (kd == 2) = false := beq_eq_false_iff_ne.2 k2
  have m1 := i64_and1 n
  have C := Lib.hid (fun wx h => truth_in b [] false wx h)
  rw [show truthV [] false = false from by decide +kernel, show truthA [] false = [] from by decide +kernel, show truthC [] false = false from by decide +kernel] at C
  clear hi k0 k1 k2
  go_enter Try.func24, Try.ntmps24
  go_wp2_with fail
  go_region_with (first | (go_at_call 35; refine (C.out _ (HI.out _)).mono ?_; rintro e w1 ⟨rfl, hin, hg⟩; have hc1 := hg.cell (a := ⟨w.heap.size, 1, none⟩) (v := .int .i64 n) (by go_simp) (by simp; omega); have G1 : Hid (w.grownBy w1 (some b)) := grown_drew hg; have I1 : Hid (InIs w1 b [] true) := hin; clear hin hg))
  all_goals (go_wp2; go_ret)
  all_goals exact ⟨⟨_, rfl⟩, Hid.out (by assumption), Hid.out (by assumption)⟩

/-- What was put is read, and the rest stays. -/
theorem one_whole (b : Nat) (x : OpV) (r : List UInt8) (w : World) (hx : x.ok) (hi : InIs w b (opB x ++ r) false) :
    Calls Try.prog 24 #[.pointer (some ⟨b, 0, none⟩), x.val] w fun e w' => e = .returned (.bool true) ∧ InIs w' b r false ∧ w.grownBy w' (some b) := by
  obtain ⟨kd, n, s⟩ := x
  obtain ⟨hk, hn, hs⟩ := hx
  rw [opB_eq] at hi
  by_cases k0 : kd = 0
  · subst k0; rw [if_pos rfl] at hi; exact one_small b n s r w hi
  · rw [if_neg k0] at hi
    by_cases k1 : kd = 1
    · subst k1; rw [if_pos rfl] at hi; exact one_long b n s r w hn hi
    · rw [if_neg k1] at hi
      by_cases k2 : kd = 2
      · subst k2; rw [if_pos rfl] at hi; exact one_text b n s r w hs hi
      · rw [if_neg k2] at hi
        by_cases hodd : n % 2 = 1
        · rw [if_pos hodd] at hi
          exact one_truth_true b kd n s r w k0 k1 k2 (by rw [odd_is]; simp [hodd]) hi
        · rw [if_neg hodd] at hi
          exact one_truth_false b kd n s r w k0 k1 k2 (by rw [odd_is]; simp [hodd]) hi

/-- Of what was cut off nothing stays: it is bad. -/
theorem one_cut (b : Nat) (x : OpV) (l : List UInt8) (w : World) (hx : x.ok) (hp : l <+: opB x) (hl : l.length < (opB x).length) (hi : InIs w b l false) :
    Calls Try.prog 24 #[.pointer (some ⟨b, 0, none⟩), x.val] w fun e w' => (∃ v : Bool, e = .returned (.bool v)) ∧ InIs w' b [] true ∧ w.grownBy w' (some b) := by
  obtain ⟨kd, n, s⟩ := x
  obtain ⟨hk, hn, hs⟩ := hx
  rw [opB_eq] at hp hl
  by_cases k0 : kd = 0
  · subst k0; rw [if_pos rfl] at hl; exact cut_small b n s l w hl hi
  · rw [if_neg k0] at hp hl
    by_cases k1 : kd = 1
    · subst k1; rw [if_pos rfl] at hl; exact cut_long b n s l w hl hi
    · rw [if_neg k1] at hp hl
      by_cases k2 : kd = 2
      · subst k2; rw [if_pos rfl] at hp hl; exact cut_text b n s l w hs hp hl hi
      · rw [if_neg k2] at hl
        have : l = [] := List.eq_nil_of_length_eq_zero (by simp at hl; simpa using hl)
        subst this
        exact cut_truth b kd n s w k0 k1 k2 hi

end Go.Proofs.Ytheolfmalcckmaa
