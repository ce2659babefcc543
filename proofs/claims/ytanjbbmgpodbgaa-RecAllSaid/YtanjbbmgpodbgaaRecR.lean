/-
  What bytes say of a record: as lists, without a world; what is read whole are just its bytes.
-/
import Derived.Test.YtanjbbmgpodbgaaFace
import Derived.Test.YtanjbbmgpodbgaaIn
namespace Go.Proofs.Ytanjbbmgpodbgaa
open Go.RowKit

theorem u8_is {n : Nat} {a : UInt8} (h : n = a.toNat) : UInt8.ofNat n = a := by rw [h]; exact UInt8.ofNat_toNat

theorem split_two {l : List UInt8} (h : l.length = 2) : ∃ a b, l = [a, b] := by
  match l, h with
  | [a, b], _ => exact ⟨a, b, rfl⟩

theorem small_le {l : List UInt8} (h : l.length = 2) : smallB (leN l : Nat) = l ∧ leN l < 65536 := by
  obtain ⟨a, b, rfl⟩ := split_two h
  have ha := a.toNat_lt
  have hb := b.toNat_lt
  unfold smallB
  simp only [leN]
  refine ⟨?_, by omega⟩
  rw [u8_is (a := a) (by omega), u8_is (a := b) (by omega)]

theorem wrap_digit {n v : Int} (h : n = v ∨ n = v - 18446744073709551616) : n % 256 = v % 256 ∧ n / 256 % 256 = v / 256 % 256 ∧ n / 65536 % 256 = v / 65536 % 256 ∧ n / 16777216 % 256 = v / 16777216 % 256 ∧ n / 4294967296 % 256 = v / 4294967296 % 256 ∧ n / 1099511627776 % 256 = v / 1099511627776 % 256 ∧ n / 281474976710656 % 256 = v / 281474976710656 % 256 ∧ n / 72057594037927936 % 256 = v / 72057594037927936 % 256 := by
  rcases h with rfl | rfl
  · exact ⟨rfl, rfl, rfl, rfl, rfl, rfl, rfl, rfl⟩
  · refine ⟨?_, ?_, ?_, ?_, ?_, ?_, ?_, ?_⟩ <;> omega

theorem digit {v a r : Nat} (h : v = a + 256 * r) (ha : a < 256) : v % 256 = a ∧ v / 256 = r := by omega

theorem digits (a0 a1 a2 a3 a4 a5 a6 a7 : Nat) (h0 : a0 < 256) (h1 : a1 < 256) (h2 : a2 < 256) (h3 : a3 < 256) (h4 : a4 < 256) (h5 : a5 < 256) (h6 : a6 < 256) (h7 : a7 < 256) (v : Nat)
    (h : v = a0 + 256 * (a1 + 256 * (a2 + 256 * (a3 + 256 * (a4 + 256 * (a5 + 256 * (a6 + 256 * a7))))))) :
    v % 256 = a0 ∧ v / 256 % 256 = a1 ∧ v / 65536 % 256 = a2 ∧ v / 16777216 % 256 = a3 ∧ v / 4294967296 % 256 = a4 ∧ v / 1099511627776 % 256 = a5 ∧ v / 281474976710656 % 256 = a6 ∧ v / 72057594037927936 % 256 = a7 := by
  obtain ⟨e0, d1⟩ := digit h h0
  obtain ⟨e1, d2⟩ := digit d1 h1
  obtain ⟨e2, d3⟩ := digit d2 h2
  obtain ⟨e3, d4⟩ := digit d3 h3
  obtain ⟨e4, d5⟩ := digit d4 h4
  obtain ⟨e5, d6⟩ := digit d5 h5
  obtain ⟨e6, d7⟩ := digit d6 h6
  rw [Nat.div_div_eq_div_mul] at d2 d3 d4 d5 d6 d7 e2 e3 e4 e5 e6
  repeat rw [Nat.div_div_eq_div_mul] at d3 e3
  repeat rw [Nat.div_div_eq_div_mul] at d4 e4
  repeat rw [Nat.div_div_eq_div_mul] at d5 e5
  repeat rw [Nat.div_div_eq_div_mul] at d6 e6
  repeat rw [Nat.div_div_eq_div_mul] at d7
  refine ⟨e0, e1, e2, e3, e4, e5, e6, ?_⟩
  have : v / 72057594037927936 = a7 := d7
  omega

theorem long_le {l : List UInt8} (h : l.length = 8) : longB (longN l) = l ∧ okI (longN l) := by
  match l, h with
  | [a0, a1, a2, a3, a4, a5, a6, a7], _ =>
    obtain ⟨v, hv⟩ : ∃ v : Nat, v = leN [a0, a1, a2, a3, a4, a5, a6, a7] := ⟨_, rfl⟩
    have hv2 : v = a0.toNat + 256 * (a1.toNat + 256 * (a2.toNat + 256 * (a3.toNat + 256 * (a4.toNat + 256 * (a5.toNat + 256 * (a6.toNat + 256 * a7.toNat)))))) := by
      rw [hv]; simp only [leN, Nat.mul_zero, Nat.add_zero]
    have hlt : v < 256 ^ 8 := by rw [hv]; exact leN_lt _
    obtain ⟨e0, e1, e2, e3, e4, e5, e6, e7⟩ := digits _ _ _ _ _ _ _ _ a0.toNat_lt a1.toNat_lt a2.toNat_lt a3.toNat_lt a4.toNat_lt a5.toNat_lt a6.toNat_lt a7.toNat_lt v hv2
    unfold longN
    rw [← hv]
    clear hv hv2
    have hw : wrap64 (v : Int) = v ∨ wrap64 (v : Int) = (v : Int) - 18446744073709551616 := by
      rw [wrap_i64_u64 v (by omega)]
      split
      · exact .inl rfl
      · exact .inr rfl
    have ho : okI (wrap64 (v : Int)) := by unfold okI wrap64; omega
    generalize wrap64 (v : Int) = n at *
    obtain ⟨d0, d1, d2, d3, d4, d5, d6, d7⟩ := wrap_digit hw
    refine ⟨?_, ho⟩
    unfold longB
    rw [d0, d1, d2, d3, d4, d5, d6, d7]
    clear d0 d1 d2 d3 d4 d5 d6 d7 hw ho hlt
    have c : ∀ x k : Nat, (((v : Int) / (k : Int)) % 256).toNat = x ↔ v / k % 256 = x := fun x k => by
      have : ((v : Int) / (k : Int)) % 256 = ((v / k % 256 : Nat) : Int) := by simp
      rw [this, Int.toNat_natCast]
    have f0 : ((v : Int) % 256).toNat = a0.toNat := by rw [← e0]; omega
    have f1 : ((v : Int) / 256 % 256).toNat = a1.toNat := (c _ 256).2 e1
    have f2 : ((v : Int) / 65536 % 256).toNat = a2.toNat := (c _ 65536).2 e2
    have f3 : ((v : Int) / 16777216 % 256).toNat = a3.toNat := (c _ 16777216).2 e3
    have f4 : ((v : Int) / 4294967296 % 256).toNat = a4.toNat := (c _ 4294967296).2 e4
    have f5 : ((v : Int) / 1099511627776 % 256).toNat = a5.toNat := (c _ 1099511627776).2 e5
    have f6 : ((v : Int) / 281474976710656 % 256).toNat = a6.toNat := (c _ 281474976710656).2 e6
    have f7 : ((v : Int) / 72057594037927936 % 256).toNat = a7.toNat := (c _ 72057594037927936).2 e7
    rw [f0, f1, f2, f3, f4, f5, f6, f7]
    simp only [UInt8.ofNat_toNat]

theorem take_sound {l : List UInt8} {bad : Bool} {n : Nat} (h : canTake l bad n = true) : bad = false ∧ l = taken l bad n ++ after l bad n ∧ (taken l bad n).length = n := by
  unfold taken after
  rw [if_pos h, if_pos h]
  unfold canTake at h
  simp at h
  exact ⟨h.1, (List.take_append_drop n l).symm, by rw [List.length_take]; omega⟩

theorem small_sound {l : List UInt8} {bad : Bool} (h : canTake l bad 2 = true) : bad = false ∧ l = smallB (leN (taken l bad 2) : Nat) ++ after l bad 2 ∧ leN (taken l bad 2) < 65536 := by
  obtain ⟨h1, h2, h3⟩ := take_sound h
  obtain ⟨h4, h5⟩ := small_le h3
  exact ⟨h1, by rw [h4]; exact h2, h5⟩

theorem long_sound {l : List UInt8} {bad : Bool} (h : canTake l bad 8 = true) : bad = false ∧ l = longB (longN (taken l bad 8)) ++ after l bad 8 := by
  obtain ⟨h1, h2, h3⟩ := take_sound h
  obtain ⟨h4, h5⟩ := long_le h3
  exact ⟨h1, by rw [h4]; exact h2⟩

theorem long_ok (l : List UInt8) (bad : Bool) : okI (longN (taken l bad 8)) := by
  unfold longN wrap64 okI
  omega

theorem small_lt (l : List UInt8) (bad : Bool) : leN (taken l bad 2) < 65536 := leN_lt' (n := 2) (taken_len l bad 2)

theorem text_sound {l : List UInt8} {bad : Bool} (h : textC l bad = true) : bad = false ∧ l = textB ⟨(textT l bad).toArray⟩ ++ textA l bad := by
  unfold textC at h
  obtain ⟨h1, h2, h3⟩ := take_sound h
  have h1 : canTake l bad 2 = true := by simpa using h1
  obtain ⟨h4, h5, h6⟩ := small_sound h1
  have hs : (⟨(textT l bad).toArray⟩ : ByteArray).size = leN (taken l bad 2) := by
    rw [size_mk]
    exact h3
  refine ⟨h4, ?_⟩
  rw [textB_low _ (by rw [hs]; exact h6), hs]
  unfold textT textA
  rw [List.append_assoc, show (⟨(taken (after l bad 2) (!canTake l bad 2) (leN (taken l bad 2))).toArray⟩ : ByteArray).data.toList = taken (after l bad 2) (!canTake l bad 2) (leN (taken l bad 2)) from rfl, ← h2]
  exact h5

theorem text_size (l : List UInt8) (bad : Bool) : (⟨(textT l bad).toArray⟩ : ByteArray).size < 65536 := by
  rw [size_mk]
  unfold textT
  have := taken_len (after l bad 2) (!canTake l bad 2) (leN (taken l bad 2))
  have := small_lt l bad
  omega

theorem truth_sound {l : List UInt8} {bad : Bool} (h : truthC l bad = true) : bad = false ∧ l = [if truthV l bad then (1 : UInt8) else 0] ++ truthA l bad := by
  unfold truthC at h
  simp only [Bool.and_eq_true, decide_eq_true_eq] at h
  obtain ⟨h0, hle⟩ := h
  obtain ⟨h1, h2, h3⟩ := take_sound h0
  refine ⟨h1, ?_⟩
  unfold truthV truthA
  rw [if_pos hle]
  generalize taken l bad 1 = x at *
  match x, h3 with
  | [a], _ =>
    have hl : leN [a] = a.toNat := by simp [leN]
    rw [hl] at hle
    have e : (if (leN [a] == 1) = true then (1 : UInt8) else 0) = a := by
      rw [hl]
      rcases (by omega : a.toNat = 0 ∨ a.toNat = 1) with h | h
      · rw [h, if_neg (by simp)]
        exact UInt8.toNat_inj.1 (by rw [h]; rfl)
      · rw [h, if_pos (by simp)]
        exact UInt8.toNat_inj.1 (by rw [h]; rfl)
    rw [e]
    exact h2

theorem take_full (a r : List UInt8) {n : Nat} (h : a.length = n) : taken (a ++ r) false n = a ∧ after (a ++ r) false n = r ∧ canTake (a ++ r) false n = true := taken_front a r n h

theorem small_full {n : Int} (h : 0 ≤ n ∧ n < 65536) (r : List UInt8) : ((leN (taken (smallB n ++ r) false 2) : Nat) : Int) = n ∧ after (smallB n ++ r) false 2 = r ∧ canTake (smallB n ++ r) false 2 = true := by
  obtain ⟨h1, h2, h3⟩ := take_full (smallB n) r (smallB_len n)
  refine ⟨?_, h2, h3⟩
  rw [h1, leN_small]
  omega

theorem long_full {n : Int} (h : -9223372036854775808 ≤ n ∧ n ≤ 9223372036854775807) (r : List UInt8) : longN (taken (longB n ++ r) false 8) = n ∧ after (longB n ++ r) false 8 = r ∧ canTake (longB n ++ r) false 8 = true := by
  obtain ⟨h1, h2, h3⟩ := take_full (longB n) r (longB_len n)
  exact ⟨by rw [h1, longN_long n h], h2, h3⟩

theorem text_full {x : ByteArray} (h : x.size < 65536) (r : List UInt8) : (⟨(textT (textB x ++ r) false).toArray⟩ : ByteArray) = x ∧ textA (textB x ++ r) false = r ∧ textC (textB x ++ r) false = true := by
  rw [textB_low x h, List.append_assoc]
  obtain ⟨h1, h2, h3⟩ := small_full (n := (x.size : Nat)) (by omega) (x.data.toList ++ r)
  have h1 : leN (taken (smallB (x.size : Nat) ++ (x.data.toList ++ r)) false 2) = x.size := by omega
  obtain ⟨k1, k2, k3⟩ := take_full x.data.toList r (n := x.size) (by simp)
  unfold textT textA textC
  rw [h1, h2, h3]
  simp only [Bool.not_true]
  rw [k1, k2, k3]
  exact ⟨rfl, rfl, rfl⟩

theorem truth_full (y : Bool) (r : List UInt8) : truthV ([if y then (1 : UInt8) else 0] ++ r) false = y ∧ truthA ([if y then (1 : UInt8) else 0] ++ r) false = r ∧ truthC ([if y then (1 : UInt8) else 0] ++ r) false = true := by
  obtain ⟨h1, h2, h3⟩ := take_full [if y then (1 : UInt8) else 0] r (n := 1) rfl
  unfold truthV truthA truthC
  rw [h1, h2, h3]
  cases y
  · exact ⟨rfl, rfl, rfl⟩
  · exact ⟨rfl, rfl, rfl⟩

/-- So many numbers; they end where it is bad. -/
def rdParts : Nat → List UInt8 → Bool → List Int × List UInt8 × Bool
  | 0, l, bad => ([], l, bad)
  | n + 1, l, bad => if bad = true then ([], l, bad) else ((leN (taken l bad 2) : Nat) :: (rdParts n (after l bad 2) (!canTake l bad 2)).1, (rdParts n (after l bad 2) (!canTake l bad 2)).2)

/-- So many puts. -/
def rdPuts : Nat → List UInt8 → Bool → List (ByteArray × ByteArray) × List UInt8 × Bool
  | 0, l, bad => ([], l, bad)
  | n + 1, l, bad => if bad = true then ([], l, bad) else
    ((⟨(textT l bad).toArray⟩, ⟨(textT (textA l bad) (!textC l bad)).toArray⟩) :: (rdPuts n (textA (textA l bad) (!textC l bad)) (!textC (textA l bad) (!textC l bad))).1, (rdPuts n (textA (textA l bad) (!textC l bad)) (!textC (textA l bad) (!textC l bad))).2)

theorem rdParts_sound : ∀ (n : Nat) (l : List UInt8) (bad : Bool), (rdParts n l bad).2.2 = false → bad = false ∧ (rdParts n l bad).1.length = n ∧ l = partsBy (rdParts n l bad).1 ++ (rdParts n l bad).2.1
  | 0, l, bad, h => ⟨h, rfl, rfl⟩
  | n + 1, l, bad, h => by
    unfold rdParts at h ⊢
    cases bad with
    | true => simp at h
    | false =>
      rw [if_neg (by simp)] at h ⊢
      obtain ⟨h1, h2, h3⟩ := rdParts_sound n _ _ h
      have h1 : canTake l false 2 = true := by simpa using h1
      obtain ⟨-, h5, -⟩ := small_sound h1
      refine ⟨rfl, by simp [h2], ?_⟩
      show l = (smallB _ ++ partsBy _) ++ _
      rw [List.append_assoc]
      rw [← h3]
      exact h5

theorem rdPuts_sound : ∀ (n : Nat) (l : List UInt8) (bad : Bool), (rdPuts n l bad).2.2 = false → bad = false ∧ (rdPuts n l bad).1.length = n ∧ l = putsBy (rdPuts n l bad).1 ++ (rdPuts n l bad).2.1
  | 0, l, bad, h => ⟨h, rfl, rfl⟩
  | n + 1, l, bad, h => by
    unfold rdPuts at h ⊢
    cases bad with
    | true => simp at h
    | false =>
      rw [if_neg (by simp)] at h ⊢
      obtain ⟨h1, h2, h3⟩ := rdPuts_sound n _ _ h
      have h1 : textC (textA l false) (!textC l false) = true := by simpa using h1
      obtain ⟨h4, h5⟩ := text_sound h1
      have h4 : textC l false = true := by simpa using h4
      obtain ⟨-, h6⟩ := text_sound h4
      refine ⟨rfl, by simp [h2], ?_⟩
      show l = ((textB _ ++ textB _) ++ putsBy _) ++ _
      rw [List.append_assoc, List.append_assoc]
      rw [← h3, ← h5]
      exact h6

theorem rdParts_full : ∀ (P : List Int) (r : List UInt8), (∀ i, i < P.length → 0 ≤ P.getD i 0 ∧ P.getD i 0 < 65536) → rdParts P.length (partsBy P ++ r) false = (P, r, false)
  | [], r, _ => rfl
  | x :: P, r, h => by
    have hx : 0 ≤ x ∧ x < 65536 := h 0 (by simp)
    obtain ⟨h1, h2, h3⟩ := small_full hx (partsBy P ++ r)
    have ih := rdParts_full P r (fun i hi => h (i + 1) (by simpa using hi))
    show rdParts (P.length + 1) ((smallB x ++ partsBy P) ++ r) false = _
    rw [List.append_assoc]
    unfold rdParts
    rw [if_neg (by simp), h1, h2, h3, Bool.not_true, ih]

theorem rdPuts_full : ∀ (Q : List (ByteArray × ByteArray)) (r : List UInt8), (∀ i, i < Q.length → (Q.getD i putNone).1.size < 65536 ∧ (Q.getD i putNone).2.size < 65536) → rdPuts Q.length (putsBy Q ++ r) false = (Q, r, false)
  | [], r, _ => rfl
  | (x, y) :: Q, r, h => by
    have hx : x.size < 65536 ∧ y.size < 65536 := h 0 (by simp)
    obtain ⟨h1, h2, h3⟩ := text_full hx.1 (textB y ++ (putsBy Q ++ r))
    obtain ⟨k1, k2, k3⟩ := text_full hx.2 (putsBy Q ++ r)
    have ih := rdPuts_full Q r (fun i hi => h (i + 1) (by simpa using hi))
    show rdPuts (Q.length + 1) (((textB x ++ textB y) ++ putsBy Q) ++ r) false = _
    rw [List.append_assoc, List.append_assoc]
    unfold rdPuts
    rw [if_neg (by simp), h1, h2, h3, Bool.not_true, k1, k2, k3, Bool.not_true, ih]

theorem rdParts_range : ∀ (n : Nat) (l : List UInt8) (bad : Bool), (rdParts n l bad).1.length ≤ n ∧ ∀ x ∈ (rdParts n l bad).1, 0 ≤ x ∧ x < 65536
  | 0, l, bad => ⟨Nat.le_refl _, by simp [rdParts]⟩
  | n + 1, l, bad => by
    unfold rdParts
    cases bad with
    | true => simp
    | false =>
      rw [if_neg (by simp)]
      obtain ⟨h1, h2⟩ := rdParts_range n (after l false 2) (!canTake l false 2)
      have := small_lt l false
      refine ⟨by simpa using h1, fun x hx => ?_⟩
      rcases List.mem_cons.1 hx with rfl | hx
      · omega
      · exact h2 x hx

theorem rdPuts_range : ∀ (n : Nat) (l : List UInt8) (bad : Bool), (rdPuts n l bad).1.length ≤ n ∧ ∀ x ∈ (rdPuts n l bad).1, x.1.size < 65536 ∧ x.2.size < 65536
  | 0, l, bad => ⟨Nat.le_refl _, by simp [rdPuts]⟩
  | n + 1, l, bad => by
    unfold rdPuts
    cases bad with
    | true => simp
    | false =>
      rw [if_neg (by simp)]
      obtain ⟨h1, h2⟩ := rdPuts_range n (textA (textA l false) (!textC l false)) (!textC (textA l false) (!textC l false))
      refine ⟨by simpa using h1, fun x hx => ?_⟩
      rcases List.mem_cons.1 hx with rfl | hx
      · exact ⟨text_size _ _, text_size _ _⟩
      · exact h2 x hx

/-- What stands behind a record's kind and number; by what its kind has. -/
def rdTail (k t : Int) (l : List UInt8) (bad : Bool) : RecV × List UInt8 × Bool :=
  if k = 2 then (⟨k, t, longN (taken l bad 8), false, [], []⟩, after l bad 8, !canTake l bad 8)
  else if k = 5 then (⟨k, t, 0, truthV l bad, [], []⟩, truthA l bad, !truthC l bad)
  else if k = 6 ∨ k = 8 ∨ k = 9 then (⟨k, t, 0, false, (rdParts (leN (taken l bad 2)) (after l bad 2) (!canTake l bad 2)).1, []⟩, (rdParts (leN (taken l bad 2)) (after l bad 2) (!canTake l bad 2)).2)
  else if k = 4 ∨ k = 7 then (⟨k, t, 0, false, [], (rdPuts (leN (taken l bad 2)) (after l bad 2) (!canTake l bad 2)).1⟩, (rdPuts (leN (taken l bad 2)) (after l bad 2) (!canTake l bad 2)).2)
  else (⟨k, t, 0, false, [], []⟩, l, bad)

def rdRec (l : List UInt8) : RecV × List UInt8 × Bool :=
  rdTail (leN (taken l false 2) : Nat) (longN (taken (after l false 2) (!canTake l false 2) 8)) (after (after l false 2) (!canTake l false 2) 8) (!canTake (after l false 2) (!canTake l false 2) 8)

theorem rdTail_sound (k t : Int) (l : List UInt8) (bad : Bool) (h : (rdTail k t l bad).2 = ([], false)) : bad = false ∧ (rdTail k t l bad).1.kind = k ∧ (rdTail k t l bad).1.tid = t ∧ recTail (rdTail k t l bad).1 = l := by
  unfold rdTail at h ⊢
  unfold recTail
  by_cases h2 : k = 2
  · rw [if_pos h2] at h ⊢
    injection h with h3 h4
    obtain ⟨h5, h6⟩ := long_sound (by simpa using h4)
    rw [h3, List.append_nil] at h6
    refine ⟨h5, rfl, rfl, ?_⟩
    dsimp only
    rw [if_pos h2]
    exact h6.symm
  rw [if_neg h2] at h ⊢
  by_cases h5 : k = 5
  · rw [if_pos h5] at h ⊢
    injection h with h3 h4
    obtain ⟨h5', h6⟩ := truth_sound (by simpa using h4)
    rw [h3, List.append_nil] at h6
    refine ⟨h5', rfl, rfl, ?_⟩
    dsimp only
    rw [if_neg h2, if_pos h5]
    exact h6.symm
  rw [if_neg h5] at h ⊢
  by_cases h6 : k = 6 ∨ k = 8 ∨ k = 9
  · rw [if_pos h6] at h ⊢
    have h4 : (rdParts (leN (taken l bad 2)) (after l bad 2) (!canTake l bad 2)).2.2 = false := by rw [h]
    have h3 : (rdParts (leN (taken l bad 2)) (after l bad 2) (!canTake l bad 2)).2.1 = [] := by rw [h]
    obtain ⟨s1, s2, s3⟩ := rdParts_sound _ _ _ h4
    obtain ⟨s4, s5, -⟩ := small_sound (l := l) (bad := bad) (by simpa using s1)
    rw [h3, List.append_nil] at s3
    refine ⟨s4, rfl, rfl, ?_⟩
    dsimp only
    rw [if_neg h2, if_neg h5, if_pos h6, s2, ← s3]
    exact s5.symm
  rw [if_neg h6] at h ⊢
  by_cases h7 : k = 4 ∨ k = 7
  · rw [if_pos h7] at h ⊢
    have h4 : (rdPuts (leN (taken l bad 2)) (after l bad 2) (!canTake l bad 2)).2.2 = false := by rw [h]
    have h3 : (rdPuts (leN (taken l bad 2)) (after l bad 2) (!canTake l bad 2)).2.1 = [] := by rw [h]
    obtain ⟨s1, s2, s3⟩ := rdPuts_sound _ _ _ h4
    obtain ⟨s4, s5, -⟩ := small_sound (l := l) (bad := bad) (by simpa using s1)
    rw [h3, List.append_nil] at s3
    refine ⟨s4, rfl, rfl, ?_⟩
    dsimp only
    rw [if_neg h2, if_neg h5, if_neg h6, if_pos h7, s2, ← s3]
    exact s5.symm
  rw [if_neg h7] at h ⊢
  injection h with h3 h4
  refine ⟨h4, rfl, rfl, ?_⟩
  dsimp only
  rw [if_neg h2, if_neg h5, if_neg h6, if_neg h7]
  exact h3.symm

/-- What is read to its end are just its bytes. -/
theorem rdRec_sound (l : List UInt8) (h : (rdRec l).2 = ([], false)) : recBytes (rdRec l).1 = l := by
  unfold rdRec at h ⊢
  obtain ⟨h1, h2, h3, h4⟩ := rdTail_sound _ _ _ _ h
  unfold recBytes
  rw [h2, h3, h4]
  obtain ⟨h5, h6⟩ := long_sound (l := after l false 2) (bad := !canTake l false 2) (by simpa using h1)
  obtain ⟨-, h7, -⟩ := small_sound (l := l) (bad := false) (by simpa using h5)
  rw [List.append_assoc, ← h6]
  exact h7.symm

/-- A record's bytes are read as that record. -/
theorem rdRec_full (r : RecV) (h : recB r = true) : rdRec (recBytes r) = (r, [], false) := by
  obtain ⟨a1, a9, at_, ai, ai2, ay, ap, aq, apl, apb, aql, aqb⟩ := recB_says h
  obtain ⟨k, t, d, y, P, Q⟩ := r
  dsimp only at *
  unfold rdRec recBytes
  dsimp only
  rw [List.append_assoc]
  obtain ⟨h1, h2, h3⟩ := small_full (n := k) (by omega) (longB t ++ recTail ⟨k, t, d, y, P, Q⟩)
  obtain ⟨h4, h5, h6⟩ := long_full (home_ok at_) (recTail ⟨k, t, d, y, P, Q⟩)
  rw [h1, h2, h3, Bool.not_true, h4, h5, h6, Bool.not_true]
  unfold rdTail recTail
  dsimp only
  clear h1 h2 h3 h4 h5 h6 h
  by_cases h2 : k = 2
  · rw [if_pos h2, if_pos h2]
    obtain ⟨h4, h5, h6⟩ := long_full (home_ok (ai2 h2)) []
    rw [List.append_nil] at h4 h5 h6
    rw [h4, h5, h6]
    subst h2
    simp at ay ap aq
    simp [ay, ap, aq]
  rw [if_neg h2, if_neg h2]
  by_cases h5 : k = 5
  · rw [if_pos h5, if_pos h5]
    obtain ⟨h4, h5', h6⟩ := truth_full y []
    rw [List.append_nil] at h4 h5' h6
    rw [h4, h5', h6]
    subst h5
    simp at ai ap aq
    simp [ai, ap, aq]
  rw [if_neg h5, if_neg h5]
  by_cases h6 : k = 6 ∨ k = 8 ∨ k = 9
  · rw [if_pos h6, if_pos h6]
    obtain ⟨h4, h5', h7⟩ := small_full (n := (P.length : Nat)) (by omega) (partsBy P)
    have hf := rdParts_full P [] (fun i hi => broker_ok (apb i hi))
    rw [List.append_nil] at hf
    have h4 : leN (taken (smallB (P.length : Nat) ++ partsBy P) false 2) = P.length := by omega
    rw [h4, h5', h7, Bool.not_true, hf]
    have e1 : d = 0 := by omega
    have e2 : y = false := by rcases ay with e | e <;> first | exact e | omega
    have e3 : Q = [] := by rcases aq with e | e | e <;> first | exact e | omega
    rw [e1, e2, e3]
  rw [if_neg h6, if_neg h6]
  have e1 : d = 0 := by omega
  have e2 : y = false := by rcases ay with e | e <;> first | exact e | omega
  have e3 : P = [] := by rcases ap with e | e | e | e <;> first | exact e | omega
  by_cases h7 : k = 4 ∨ k = 7
  · rw [if_pos h7, if_pos h7]
    obtain ⟨h4, h5', h8⟩ := small_full (n := (Q.length : Nat)) (by omega) (putsBy Q)
    have hf := rdPuts_full Q [] (fun i hi => by have := putB_sizes (aqb i hi); omega)
    rw [List.append_nil] at hf
    have h4 : leN (taken (smallB (Q.length : Nat) ++ putsBy Q) false 2) = Q.length := by omega
    rw [h4, h5', h8, Bool.not_true, hf]
    rw [e1, e2, e3]
  rw [if_neg h7, if_neg h7]
  have e4 : Q = [] := by rcases aq with e | e | e <;> first | exact e | omega
  rw [e1, e2, e3, e4]

end Go.Proofs.Ytanjbbmgpodbgaa
