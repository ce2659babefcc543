/-
  Unlike records have unlike bytes.
-/
import Derived.Test.YtanjbbmgpodbgaaRb
namespace Go.Proofs.Ytanjbbmgpodbgaa
open Go.RowKit

theorem taken_front (a r : List UInt8) (n : Nat) (h : a.length = n) : taken (a ++ r) false n = a ∧ after (a ++ r) false n = r ∧ canTake (a ++ r) false n = true := by
  subst h
  have hc : canTake (a ++ r) false a.length = true := by simp [canTake]
  exact ⟨by simp [taken, hc], by simp [after, hc], hc⟩

theorem leN_small (n : Int) : leN (smallB n) = (n % 65536).toNat := by
  have h0 := u8_ofNat (n := n % 256) (by omega) (by omega)
  have h1 := u8_ofNat (n := n / 256 % 256) (by omega) (by omega)
  simp only [smallB, leN]
  omega

theorem longN_long (n : Int) (h : -9223372036854775808 ≤ n ∧ n ≤ 9223372036854775807) : longN (longB n) = n := by
  have h0 := u8_ofNat (n := n % 256) (by omega) (by omega)
  have h1 := u8_ofNat (n := n / 256 % 256) (by omega) (by omega)
  have h2 := u8_ofNat (n := n / 65536 % 256) (by omega) (by omega)
  have h3 := u8_ofNat (n := n / 16777216 % 256) (by omega) (by omega)
  have h4 := u8_ofNat (n := n / 4294967296 % 256) (by omega) (by omega)
  have h5 := u8_ofNat (n := n / 1099511627776 % 256) (by omega) (by omega)
  have h6 := u8_ofNat (n := n / 281474976710656 % 256) (by omega) (by omega)
  have h7 := u8_ofNat (n := n / 72057594037927936 % 256) (by omega) (by omega)
  have e : ((leN (longB n) : Nat) : Int) = n % 18446744073709551616 := by
    unfold longB
    simp only [leN, Int.natCast_add, Int.natCast_mul]
    omega
  unfold longN
  rw [e]
  unfold wrap64
  omega

theorem small_inj {a b : Int} {r s : List UInt8} (ha : 0 ≤ a ∧ a < 65536) (hb : 0 ≤ b ∧ b < 65536) (h : smallB a ++ r = smallB b ++ s) : a = b ∧ r = s := by
  obtain ⟨h1, h2⟩ := List.append_inj h rfl
  refine ⟨?_, h2⟩
  have := congrArg leN h1
  rw [leN_small, leN_small] at this
  omega

theorem long_inj {a b : Int} {r s : List UInt8} (ha : -9223372036854775808 ≤ a ∧ a ≤ 9223372036854775807) (hb : -9223372036854775808 ≤ b ∧ b ≤ 9223372036854775807) (h : longB a ++ r = longB b ++ s) : a = b ∧ r = s := by
  obtain ⟨h1, h2⟩ := List.append_inj h rfl
  refine ⟨?_, h2⟩
  have := congrArg longN h1
  rwa [longN_long _ ha, longN_long _ hb] at this

theorem textB_low (x : ByteArray) (hx : x.size < 65536) : textB x = smallB (x.size : Nat) ++ x.data.toList := by
  unfold textB
  rw [Nat.mod_eq_of_lt hx, List.take_of_length_le (by simp)]

theorem text_inj {x y : ByteArray} {r s : List UInt8} (hx : x.size < 65536) (hy : y.size < 65536) (h : textB x ++ r = textB y ++ s) : x = y ∧ r = s := by
  rw [textB_low x hx, textB_low y hy, List.append_assoc, List.append_assoc] at h
  obtain ⟨h1, h2⟩ := small_inj (by omega) (by omega) h
  have h1 : x.size = y.size := by omega
  obtain ⟨h3, h4⟩ := List.append_inj h2 (by simpa using h1)
  exact ⟨Go.WideShapes.bytes_inj h3, h4⟩

theorem parts_inj : ∀ (l m : List Int), l.length = m.length → (∀ i, i < l.length → 0 ≤ l.getD i 0 ∧ l.getD i 0 < 65536) → (∀ i, i < m.length → 0 ≤ m.getD i 0 ∧ m.getD i 0 < 65536) → partsBy l = partsBy m → l = m
  | [], [], _, _, _, _ => rfl
  | [], _ :: _, h, _, _, _ => by simp at h
  | _ :: _, [], h, _, _, _ => by simp at h
  | x :: l, y :: m, h, hl, hm, e => by
    have e' : smallB x ++ partsBy l = smallB y ++ partsBy m := e
    obtain ⟨h1, h2⟩ := small_inj (hl 0 (by simp)) (hm 0 (by simp)) e'
    have h1 : x = y := h1
    have := parts_inj l m (by simpa using h) (fun i hi => hl (i + 1) (by simpa using hi)) (fun i hi => hm (i + 1) (by simpa using hi)) h2
    rw [h1, this]

theorem puts_inj : ∀ (l m : List (ByteArray × ByteArray)), l.length = m.length → (∀ i, i < l.length → (l.getD i putNone).1.size < 65536 ∧ (l.getD i putNone).2.size < 65536) → (∀ i, i < m.length → (m.getD i putNone).1.size < 65536 ∧ (m.getD i putNone).2.size < 65536) → putsBy l = putsBy m → l = m
  | [], [], _, _, _, _ => rfl
  | [], _ :: _, h, _, _, _ => by simp at h
  | _ :: _, [], h, _, _, _ => by simp at h
  | (x1, x2) :: l, (y1, y2) :: m, h, hl, hm, e => by
    have e' : textB x1 ++ (textB x2 ++ putsBy l) = textB y1 ++ (textB y2 ++ putsBy m) := by
      have : putsBy ((x1, x2) :: l) = putsBy ((y1, y2) :: m) := e
      simpa [putsBy] using this
    obtain ⟨h1, h2⟩ := text_inj (hl 0 (by simp)).1 (hm 0 (by simp)).1 e'
    obtain ⟨h3, h4⟩ := text_inj (hl 0 (by simp)).2 (hm 0 (by simp)).2 h2
    have h1 : x1 = y1 := h1
    have h3 : x2 = y2 := h3
    have := puts_inj l m (by simpa using h) (fun i hi => hl (i + 1) (by simpa using hi)) (fun i hi => hm (i + 1) (by simpa using hi)) h4
    rw [h1, h3, this]

/-- What may be of a record's parts and puts, by its kind. -/
theorem recB_says {r : RecV} (h : recB r = true) : 1 ≤ r.kind ∧ r.kind ≤ 9 ∧ 0 < homeZ r.tid ∧ (r.kind = 2 ∨ r.id = 0) ∧ (r.kind = 2 → 0 < homeZ r.id) ∧ (r.kind = 5 ∨ r.yes = false) ∧ (r.kind = 6 ∨ r.kind = 8 ∨ r.kind = 9 ∨ r.parts = []) ∧ (r.kind = 4 ∨ r.kind = 7 ∨ r.puts = []) ∧
    r.parts.length ≤ 7 ∧ (∀ i, i < r.parts.length → brokerB (r.parts.getD i 0) = true) ∧ r.puts.length ≤ 10 ∧ (∀ i, i < r.puts.length → putB (r.puts.getD i putNone) = true) := by
  obtain ⟨k, t, d, y, P, Q⟩ := r
  rw [recB_own] at h
  simp only [Bool.and_eq_true, decide_eq_true_eq] at h
  obtain ⟨⟨h1, h9⟩, ht, hi, hy, hp, hq⟩ := h
  have ht : 0 < homeZ t := by simpa [tidB] using ht
  simp only [partsB, Bool.and_eq_true, decide_eq_true_eq] at hp
  simp only [oputsB, Bool.and_eq_true, decide_eq_true_eq] at hq
  obtain ⟨⟨hp1, hp2⟩, hp3⟩ := hp
  obtain ⟨hq1, hq2⟩ := hq
  have hput : ∀ i, i < Q.length → putB (Q.getD i putNone) = true := fun i hi => by
    have e : Q.getD i putNone = Q[i] := by simp [List.getD, hi]
    rw [e]
    exact List.all_eq_true.1 hq2 _ (List.getElem_mem hi)
  have hbr : ∀ i, i < P.length → brokerB (P.getD i 0) = true := fun i hi => (hp3 i hi).1
  dsimp only
  have hk : k = 1 ∨ k = 2 ∨ k = 3 ∨ k = 4 ∨ k = 5 ∨ k = 6 ∨ k = 7 ∨ k = 8 ∨ k = 9 := by omega
  have hno : ∀ {α : Type} {l : List α}, (l.length : Int) ≤ 0 → l = [] := fun h => List.eq_nil_of_length_eq_zero (by omega)
  refine ⟨h1, h9, ht, ?_, ?_, ?_, ?_, ?_, ?_, hbr, ?_, hput⟩
  all_goals clear hbr hput hp3 hq2
  · rcases hk with rfl | rfl | rfl | rfl | rfl | rfl | rfl | rfl | rfl <;> simp [idB, ownV] at hi ⊢ <;> exact hi
  · intro e
    subst e
    simpa [idB, ownV, tidB] using hi
  · rcases hk with rfl | rfl | rfl | rfl | rfl | rfl | rfl | rfl | rfl <;> simp [ownV] at hy ⊢ <;> exact hy
  · rcases hk with rfl | rfl | rfl | rfl | rfl | rfl | rfl | rfl | rfl <;> simp [ownV] at hp2 ⊢ <;> first | exact hp2 | omega
  · rcases hk with rfl | rfl | rfl | rfl | rfl | rfl | rfl | rfl | rfl <;> simp [ownV] at hq1 ⊢ <;> first | exact hq1 | omega
  · rcases hk with rfl | rfl | rfl | rfl | rfl | rfl | rfl | rfl | rfl <;> simp [ownV] at hp2 <;> first | omega | (rw [hp2]; simp)
  · rcases hk with rfl | rfl | rfl | rfl | rfl | rfl | rfl | rfl | rfl <;> simp [ownV] at hq1 <;> first | omega | (rw [hq1]; simp)

theorem home_ok {t : Int} (h : 0 < homeZ t) : -9223372036854775808 ≤ t ∧ t ≤ 9223372036854775807 := by
  unfold homeZ at h
  split at h <;> omega

theorem putB_sizes {p : ByteArray × ByteArray} (h : putB p = true) : p.1.size ≤ 8 ∧ p.2.size ≤ 60 := by
  unfold putB queueB bodyB at h
  simp only [Bool.and_eq_true, decide_eq_true_eq] at h
  omega

theorem broker_ok {n : Int} (h : brokerB n = true) : 0 ≤ n ∧ n < 65536 := by
  have := of_decide_eq_true h
  omega

theorem recBytes_inj {a b : RecV} (ha : recB a = true) (hb : recB b = true) (h : recBytes a = recBytes b) : a = b := by
  obtain ⟨a1, a9, at_, ai, ai2, ay, ap, aq, apl, apb, aql, aqb⟩ := recB_says ha
  obtain ⟨b1, b9, bt, bi, bi2, by_, bp, bq, bpl, bpb, bql, bqb⟩ := recB_says hb
  obtain ⟨ka, ta, da, ya, Pa, Qa⟩ := a
  obtain ⟨kb, tb, db, yb, Pb, Qb⟩ := b
  dsimp only at *
  unfold recBytes at h
  dsimp only at h
  rw [List.append_assoc, List.append_assoc] at h
  obtain ⟨hk, h⟩ := small_inj (by omega) (by omega) h
  obtain ⟨ht, h⟩ := long_inj (home_ok at_) (home_ok bt) h
  subst hk ht
  have hk : ka = 1 ∨ ka = 2 ∨ ka = 3 ∨ ka = 4 ∨ ka = 5 ∨ ka = 6 ∨ ka = 7 ∨ ka = 8 ∨ ka = 9 := by omega
  have hPs : smallB (Pa.length : Int) ++ partsBy Pa = smallB (Pb.length : Int) ++ partsBy Pb → Pa = Pb := fun h => by
    obtain ⟨h1, h2⟩ := small_inj (by omega) (by omega) h
    exact parts_inj Pa Pb (by omega) (fun i hi => broker_ok (apb i hi)) (fun i hi => broker_ok (bpb i hi)) h2
  have hQs : smallB (Qa.length : Int) ++ putsBy Qa = smallB (Qb.length : Int) ++ putsBy Qb → Qa = Qb := fun h => by
    obtain ⟨h1, h2⟩ := small_inj (by omega) (by omega) h
    exact puts_inj Qa Qb (by omega) (fun i hi => by have := putB_sizes (aqb i hi); omega) (fun i hi => by have := putB_sizes (bqb i hi); omega) h2
  clear apb bpb aqb bqb ha hb
  rcases hk with rfl | rfl | rfl | rfl | rfl | rfl | rfl | rfl | rfl
  · simp at ai ay ap aq bi by_ bp bq
    simp [ai, ay, ap, aq, bi, by_, bp, bq]
  · simp at ay ap aq by_ bp bq
    have h : longB da ++ [] = longB db ++ [] := by rw [List.append_nil, List.append_nil]; exact h
    have := (long_inj (home_ok (ai2 rfl)) (home_ok (bi2 rfl)) h).1
    simp [this, ay, ap, aq, by_, bp, bq]
  · simp at ai ay ap aq bi by_ bp bq
    simp [ai, ay, ap, aq, bi, by_, bp, bq]
  · simp at ai ay ap bi by_ bp
    have := hQs h
    simp [ai, ay, ap, bi, by_, bp, this]
  · simp at ai ap aq bi bp bq
    have h : [if ya then (1 : UInt8) else 0] = [if yb then 1 else 0] := h
    have : ya = yb := by cases ya <;> cases yb <;> simp at h ⊢
    simp [ai, ap, aq, bi, bp, bq, this]
  · simp at ai ay aq bi by_ bq
    have := hPs h
    simp [ai, ay, aq, bi, by_, bq, this]
  · simp at ai ay ap bi by_ bp
    have := hQs h
    simp [ai, ay, ap, bi, by_, bp, this]
  · simp at ai ay aq bi by_ bq
    have := hPs h
    simp [ai, ay, aq, bi, by_, bq, this]
  · simp at ai ay aq bi by_ bq
    have := hPs h
    simp [ai, ay, aq, bi, by_, bq, this]

theorem recBytes_long (r : RecV) : 10 ≤ (recBytes r).length := by
  unfold recBytes
  simp [smallB_len, longB_len]
  omega

end Go.Proofs.Ytanjbbmgpodbgaa
