/-
  The walk of the law SegSpoilt.

  A byte of a log was turned: what its bytes tell then. (One turned byte spoils the sum; a turned sum or text is told; a turned length may be.)
-/
import Derived.Test.YtjdpglmphacfjaaGreatDoorSegTear
import Derived.Test.YtjdpglmphacfjaaGreatDoorBegun4
import Derived.Test.YtjdpglmphacfjaaGreatDoorShortNew
import Derived.Deep.CutRange
import Derived.Deep.CutBlock
import Derived.Lib.SlBytesConst
import Derived.Test.YtjdpglmphacfjaaGreatDoorRegInv
namespace Go.Proofs.YtjdpglmphacfjaaGreatDoor
open Go.RowKit

theorem stepN_zero {s : Nat} (h : s < 4294967296) (h0 : stepN s = 0) : s = 0 := by
  unfold stepN at h0
  split at h0
  · have h1 : s / 2 = polyN := by
      have := congrArg (· ^^^ polyN) h0
      simpa [Nat.xor_assoc] using this
    have : polyN = 2197175160 := rfl
    omega
  · omega

theorem stepsN_zero {s : Nat} (h : s < 4294967296) : ∀ k, stepsN k s = 0 → s = 0
  | 0, h0 => h0
  | k + 1, h0 => stepsN_zero h k (stepN_zero (stepsN_lt h k) h0)

theorem xor_eq_zero' {a b : Nat} (h : a ^^^ b = 0) : a = b := by
  have := congrArg (· ^^^ b) h
  simpa [Nat.xor_assoc] using this

theorem byteN_inj {s t x y : Nat} (hs : s < 4294967296) (ht : t < 4294967296) (hx : x < 256) (hy : y < 256) (h : byteN s x = byteN t y) : s ^^^ x = t ^^^ y := by
  unfold byteN at h
  have h1 : stepsN 8 ((s ^^^ x) ^^^ (t ^^^ y)) = 0 := by rw [stepsN_xor, h, Nat.xor_self]
  exact xor_eq_zero' (stepsN_zero (xor_lt32 (xor_lt32 hs (by omega)) (xor_lt32 ht (by omega))) 8 h1)

theorem onN_inj : ∀ (l : List UInt8) {s t : Nat}, s < 4294967296 → t < 4294967296 → onN s l = onN t l → s = t
  | [], _, _, _, _, h => h
  | x :: l, s, t, hs, ht, h => by
    rw [onN_cons, onN_cons] at h
    have hx := x.toNat_lt
    have h1 := byteN_inj hs ht (by omega) (by omega) (onN_inj l (byteN_lt hs (by omega)) (byteN_lt ht (by omega)) h)
    have := congrArg (· ^^^ x.toNat) h1
    simpa [Nat.xor_assoc] using this

/-- One byte is another one: another sum. -/
theorem sum_turned (A B : List UInt8) {p q : UInt8} (hpq : p ≠ q) : sumOn 0 (A ++ p :: B) ≠ sumOn 0 (A ++ q :: B) := by
  intro h
  unfold sumOn at h
  have h0 : onN (notN 0) (A ++ p :: B) < 4294967296 := onN_lt _ (notN_lt _)
  have h1 : onN (notN 0) (A ++ q :: B) < 4294967296 := onN_lt _ (notN_lt _)
  have h2 := congrArg notN h
  rw [notN_notN h0, notN_notN h1, onN_append, onN_append, onN_cons, onN_cons] at h2
  have hs : onN (notN 0) A < 4294967296 := onN_lt _ (notN_lt _)
  have hp := p.toNat_lt
  have hq := q.toNat_lt
  have h3 := byteN_inj hs hs (by omega) (by omega) (onN_inj B (byteN_lt hs (by omega)) (byteN_lt hs (by omega)) h2)
  have h4 := congrArg (onN (notN 0) A ^^^ ·) h3
  simp only [← Nat.xor_assoc, Nat.xor_self, Nat.zero_xor] at h4
  exact hpq (UInt8.toNat_inj.1 h4)

theorem sum_set {l : List UInt8} {i : Nat} (hi : i < l.length) {z : UInt8} (hz : z ≠ l[i]) (H : List UInt8) : sumOn 0 (H ++ l.set i z) ≠ sumOn 0 (H ++ l) := by
  have e1 : l.set i z = l.take i ++ z :: l.drop (i + 1) := List.set_eq_take_append_cons_drop.trans (if_pos hi)
  have e2 : l = l.take i ++ l[i] :: l.drop (i + 1) := by rw [← List.drop_eq_getElem_cons hi, List.take_append_drop]
  rw [e1]
  conv => rhs; rw [e2]
  rw [← List.append_assoc, ← List.append_assoc]
  exact sum_turned _ _ hz

theorem leN2 (a b : UInt8) : leN [a, b] = a.toNat + 256 * b.toNat := by simp [leN]

/-- The head's six bytes. -/
theorem frHead_six (b : List UInt8) : ∃ h0 h1 h2 h3 h4 h5, frHead b = [h0, h1, h2, h3, h4, h5] := ⟨_, _, _, _, _, _, rfl⟩

/-- A frame of which one byte behind the length was turned. -/
theorem cut_turned {t r : List UInt8} (ht : okF t = true) {j : Nat} (h2 : 2 ≤ j) (hj : j < (frB t).length) {z : UInt8} (hz : z ≠ (frB t)[j]) : cutR ((frB t).set j z ++ r) = .bad := by
  have hb := okF_iff.1 ht
  have hfl := frB_length t
  obtain ⟨h0, h1, c0, c1, c2, c3, hh⟩ := frHead_six t
  have hF : frB t = h0 :: h1 :: c0 :: c1 :: c2 :: c3 :: t := by unfold frB; rw [hh]; rfl
  have hL := cutLen_fr ht r
  have hS := cutSum_fr t r
  have hsum : frSum t = sumOn 0 ([h0, h1] ++ t) := by
    unfold frSum
    have : smallB (t.length : Nat) = [h0, h1] := by have := head_take2 t []; rw [hF] at this; exact this.symm
    rw [this]
  have hL' : ∀ u : List UInt8, cutLen (h0 :: h1 :: u) = t.length := fun u => by rw [← hL, hF]; rfl
  have hll : ((frB t).set j z ++ r).length = 6 + t.length + r.length := by rw [List.length_append, List.length_set, hfl]
  -- the turned frame, written out: its sum and its text
  have key : ∃ d0 d1 d2 d3 t', (frB t).set j z = h0 :: h1 :: d0 :: d1 :: d2 :: d3 :: t' ∧ t'.length = t.length ∧ leN [d0, d1] + 65536 * leN [d2, d3] ≠ sumOn 0 ([h0, h1] ++ t') := by
    have hS' : leN [c0, c1] + 65536 * leN [c2, c3] = frSum t := by rw [← hS, hF]; rfl
    rw [leN2, leN2] at hS'
    have q0 := c0.toNat_lt
    have q1 := c1.toNat_lt
    have q2 := c2.toNat_lt
    have q3 := c3.toNat_lt
    have qz := z.toNat_lt
    by_cases h6 : 6 ≤ j
    · obtain ⟨i, rfl⟩ : ∃ i, j = i + 6 := ⟨j - 6, by omega⟩
      have hi : i < t.length := by omega
      refine ⟨c0, c1, c2, c3, t.set i z, by rw [hF]; rfl, by simp, ?_⟩
      have hz' : z ≠ t[i] := by
        intro e
        apply hz
        rw [e]
        simp [hF]
      rw [leN2, leN2, hS', hsum]
      exact (sum_set hi hz' _).symm
    · have hz3 : ∀ {c : UInt8}, (frB t)[j] = c → z.toNat ≠ c.toNat := fun e e2 => hz (by rw [e]; exact UInt8.toNat_inj.1 e2)
      have hj4 : j = 2 ∨ j = 3 ∨ j = 4 ∨ j = 5 := by omega
      rcases hj4 with rfl | rfl | rfl | rfl
      · have h9 := hz3 (c := c0) (by simp [hF])
        refine ⟨z, c1, c2, c3, t, by rw [hF]; rfl, rfl, ?_⟩
        rw [leN2, leN2, ← hsum, ← hS']; omega
      · have h9 := hz3 (c := c1) (by simp [hF])
        refine ⟨c0, z, c2, c3, t, by rw [hF]; rfl, rfl, ?_⟩
        rw [leN2, leN2, ← hsum, ← hS']; omega
      · have h9 := hz3 (c := c2) (by simp [hF])
        refine ⟨c0, c1, z, c3, t, by rw [hF]; rfl, rfl, ?_⟩
        rw [leN2, leN2, ← hsum, ← hS']; omega
      · have h9 := hz3 (c := c3) (by simp [hF])
        refine ⟨c0, c1, c2, z, t, by rw [hF]; rfl, rfl, ?_⟩
        rw [leN2, leN2, ← hsum, ← hS']; omega
  obtain ⟨d0, d1, d2, d3, t', hs, htl, hne⟩ := key
  unfold cutR
  rw [hll]
  have e1 : cutLen ((frB t).set j z ++ r) = t.length := by rw [hs]; exact hL' _
  rw [e1, if_neg (by omega), if_neg (by omega), if_neg (by omega), if_neg]
  rw [hs]
  have e2 : cutSum (h0 :: h1 :: d0 :: d1 :: d2 :: d3 :: t' ++ r) = leN [d0, d1] + 65536 * leN [d2, d3] := rfl
  have e3 : (h0 :: h1 :: d0 :: d1 :: d2 :: d3 :: t' ++ r).take 2 = [h0, h1] := rfl
  have e4 : ((h0 :: h1 :: d0 :: d1 :: d2 :: d3 :: t' ++ r).drop 6).take t.length = t' := by
    show (t' ++ r).take t.length = t'
    rw [← htl, List.take_left' rfl]
  rw [e2, e3, e4]
  exact hne

/-- A log's bytes, one of them turned. -/
theorem spoilt {T : List (List UInt8)} (hok : ∀ t ∈ T, okF t = true) {k i : Nat} (hk : k < T.length) (h1 : (frs (T.take k)).length ≤ i) (h2 : i < (frs (T.take (k + 1))).length) {z : UInt8} (hz : z ≠ (frs T).getD i 0) :
    (unfr ((frs T).set i z)).2.2 = 3 ∨ ((unfr ((frs T).set i z)).2.2 = 0 ∨ (unfr ((frs T).set i z)).2.2 = 2) ∧ i - (frs (T.take k)).length < 2 ∧ ∃ W, (unfr ((frs T).set i z)).1 = T.take k ++ W := by
  have ht : okF T[k] = true := hok _ (List.getElem_mem hk)
  have hA : ∀ t ∈ T.take k, okF t = true := fun t ht => hok t (List.mem_of_mem_take ht)
  have hd : T.drop k = T[k] :: T.drop (k + 1) := List.drop_eq_getElem_cons hk
  have hs : T.take (k + 1) = T.take k ++ [T[k]] := by rw [List.take_succ_eq_append_getElem hk]
  have hT : frs T = frs (T.take k) ++ (frB T[k] ++ frs (T.drop (k + 1))) := by rw [← frs_cons, ← hd, ← frs_append, List.take_append_drop]
  rw [hs, frs_append, frs_one, List.length_append] at h2
  obtain ⟨j, hj⟩ : ∃ j, j = i - (frs (T.take k)).length := ⟨_, rfl⟩
  have hjl : j < (frB T[k]).length := by omega
  have hset : (frs T).set i z = frs (T.take k) ++ ((frB T[k]).set j z ++ frs (T.drop (k + 1))) := by
    rw [hT, List.set_append_right _ _ h1, ← hj, List.set_append_left _ _ hjl]
  have hget : (frs T).getD i 0 = (frB T[k])[j] := by
    rw [hT, List.getD_eq_getElem?_getD, List.getElem?_append_right h1, ← hj, List.getElem?_append_left hjl, List.getElem?_eq_getElem hjl]
    rfl
  rw [hget] at hz
  rw [hset, unfr_frs _ _ hA, ← hj]
  obtain ⟨s, hse⟩ : ∃ s, s = (frB T[k]).set j z ++ frs (T.drop (k + 1)) := ⟨_, rfl⟩
  rw [← hse]
  by_cases hj2 : 2 ≤ j
  · left
    have := cut_turned (r := frs (T.drop (k + 1))) ht hj2 hjl hz
    rw [← hse] at this
    rw [unfr_bad this]
  · rcases unfr_err s.length s (Nat.le_refl _) with e | e | e
    · exact .inr ⟨.inl e, by omega, _, rfl⟩
    · exact .inr ⟨.inr e, by omega, _, rfl⟩
    · exact .inl e

end Go.Proofs.YtjdpglmphacfjaaGreatDoor

namespace Go.Proofs.YtjdpglmphacfjaaGreatDoor
open Go.RowKit

/-- What holds between the log and the row that the law keeps of it. -/
structure KeptP (w wr : World) (lb d k : Nat) (T : List (List UInt8)) (L : List Nat) (av : Value) : Prop where
  log : LgAt L wr lb d rBig 0 T (oneM T)
  ge : ∀ j ∈ L, w.heap.size ≤ j
  row : Txs wr (fun g => g ∉ L ∧ w.heap.size ≤ g) av T
  few : T.length ≤ k
  short : ∀ t ∈ T, t.length ≤ 30
  ok : ∀ t ∈ T, okF t = true
  bel : Below w.heap.size w wr

theorem slice_texts (ao : Option Addr) (nl cp m : Nat) (h : m ≤ cp) (w : World) : (Instr.slice 34 (.slice ao nl cp) none (some (.int .i64 (m : Int))) none).run Tryz.prog w = .ok (.slice ao m cp) w := by
  have hu : Tryz.prog.underlying 34 = some (.slice (Tryz.prog.elem 34)) := by kernel_rfl
  have hs : ∀ wx, (sizeOf (Tryz.prog.elem 34)).run Tryz.prog wx = .ok 1 wx := fun _ => by kernel_rfl
  rw [run_slice_h (P := Tryz.prog) w 34 ao nl cp hu .i64 (m : Int) (by omega) (by omega), hs]
  have ha : ao.map (fun A : Addr => A.add 0) = ao := by
    cases ao with
    | none => rfl
    | some A =>
      obtain ⟨b, o, s⟩ := A
      cases s <;> simp [Addr.add]
  simp [Result.andThen, sliced, ha]

theorem xor_u8 (a b : Nat) (ha : a < 256) (hb : b < 256) : bits .xor .u8 (a : Int) (b : Int) = ((a ^^^ b : Nat) : Int) := by
  have hx : a ^^^ b < 2 ^ 8 := Nat.xor_lt_two_pow (by omega) (by omega)
  have h1 : (BitVec.ofInt 8 (a : Int)).toNat = a := by
    rw [BitVec.ofInt_natCast, BitVec.toNat_ofNat]; exact Nat.mod_eq_of_lt (by omega)
  have h2 : (BitVec.ofInt 8 (b : Int)).toNat = b := by
    rw [BitVec.ofInt_natCast, BitVec.toNat_ofNat]; exact Nat.mod_eq_of_lt (by omega)
  show IntKind.u8.wrap ((BitVec.ofInt 8 (a : Int) ^^^ BitVec.ofInt 8 (b : Int)).toNat : Int) = _
  rw [BitVec.toNat_xor, h1, h2, IntKind.wrap_u8']
  omega

theorem xor_ne {a b : Nat} (hb : b ≠ 0) : a ^^^ b ≠ a := by
  intro h
  have := congrArg (a ^^^ ·) h
  simp only [← Nat.xor_assoc, Nat.xor_self, Nat.zero_xor] at this
  exact hb this

theorem unfr_short : ∀ (k : Nat) (b : List UInt8), b.length ≤ k → ∀ t ∈ (unfr b).1, t.length ≤ 4000
  | 0, b, h, t, ht => by
    have : b = [] := List.length_eq_zero_iff.1 (by omega)
    subst this
    simp [unfr_nil] at ht
  | k + 1, b, h, t, ht => by
    cases hc : cutR b with
    | more =>
      by_cases h0 : 0 < b.length
      · rw [unfr_more h0 hc] at ht; simp at ht
      · have : b = [] := List.length_eq_zero_iff.1 (by omega)
        subst this
        simp [unfr_nil] at ht
    | bad => rw [unfr_bad hc] at ht; simp at ht
    | ok u =>
      have h1 := cutR_ok hc
      rw [unfr_ok hc] at ht
      rcases List.mem_cons.1 ht with rfl | ht
      · omega
      · exact unfr_short k _ (by rw [List.length_drop]; omega) t ht

/-- What is read of a file is the caller's own. -/
theorem lg_read_own {L : List Nat} {wq w : World} {lb d room num : Nat} {T : List (List UInt8)} {M : List Fm} {n : List UInt8} (h : Lg L wq w lb d room num T M) (hh : hasF M n = true) :
    Calls Tryz.prog 19 #[.pointer (some ⟨d, 0, none⟩), .string ⟨n.toArray⟩] w fun e w' =>
      ∃ v, e = .returned (.tuple #[v, .bool true]) ∧ w'.ownsRow w.heap.size 5 1 v (bytesOf M n).length (u8s (bytesOf M n)) ∧ Below w.heap.size w w' := by
  obtain ⟨l, hd, hl, hk⟩ := h.over
  obtain ⟨A, g, B, rfl, rfl⟩ := hasF_split hh
  rw [bytesOf_split hd.nodup]
  exact read_some w hd

set_option maxHeartbeats 8000000 in
set_option maxRecDepth 100000 in
theorem segSpoilt_walk (a0 : Option Addr) (cap0 : Nat) (l0 : List (List UInt8)) (a1 : Int) (a2 : Int) (w : World) (w0 : Tl w a0 cap0 l0) (w1 : (Lit.int .i64 a1).wf = true) (w2 : (Lit.int .u8 a2).wf = true) (htab : Tab w) :
    Calls Tryz.prog 4 #[.slice a0 l0.length cap0, .int .i64 a1, .int .u8 a2] w fun e w' => e = .returned (.bool true) ∧ Below w.heap.size w w' := by
  have hlen := w0.len
  have hb1 := bounds_i64 w1
  have hb2 : 0 ≤ a2 ∧ a2 < 256 := by have := bounds_u8 w2; omega
  have H0 := Lib.hid w0
  have HTB := Lib.hid htab
  have HB2 := Lib.hid hb2
  clear w0 w1 w2 htab hb2
  go_enter Tryz.func4, Tryz.ntmps4
  go_wp2_with fail
  refine (begun4_calls _ HTB.out).mono ?_
  rintro e x1 ⟨rfl, hb1⟩
  have B1 := Lib.hid hb1
  have T1 := Lib.hid (HTB.out.turn (Turn.of_below hb1 []) (by simp))
  clear hb1
  go_wp2_with fail
  refine (dk_new 1048576 x1).mono ?_
  rintro e x2 ⟨rfl, hd⟩
  rw [room_big] at hd
  have D2 := Lib.hid hd
  obtain ⟨d, hdd⟩ : ∃ d, d = x1.heap.size := ⟨_, rfl⟩
  rw [← hdd] at D2 ⊢
  clear hd hdd
  go_wp2_with fail
  refine (open_calls D2.out T1.out 0 (by decide) 0 (fun n => by simp [mDel, bytesOf]) (by simp)).mono ?_
  rintro e x3 ⟨hok, -⟩
  obtain ⟨lb, rfl, hl3⟩ := hok (by rw [open_first.1])
  rw [open_first.1, open_first.2] at hl3
  have hl3' : Lg [] x1 x3 lb d rBig 0 [] (oneM []) := hl3
  by_cases hneg : a1 < 0
  · have B3 := Lib.hid (B1.out.trans (hl3'.1.belowAll.mono B1.out.size))
    clear hl3 hl3' hok D2
    go_wp2
    go_ret
    exact ⟨rfl, B3.out⟩
  obtain ⟨na, rfl⟩ : ∃ n : Nat, a1 = (n : Int) := ⟨a1.toNat, by omega⟩
  have hd0 : decide ((na : Int) < 0) = false := by simp; try omega
  by_cases hx0 : a2 = 0
  · subst hx0
    have B3 := Lib.hid (B1.out.trans (hl3'.1.belowAll.mono B1.out.size))
    clear hl3 hl3' hok D2
    go_wp2
    go_ret
    exact ⟨rfl, B3.out⟩
  obtain ⟨nx, rfl⟩ : ∃ n : Nat, a2 = (n : Int) := ⟨a2.toNat, by have := HB2.out; omega⟩
  have hx1 : ((nx : Int) == 0) = false := by simp; omega
  have HX0 : Hid (nx ≠ 0 ∧ nx < 256) := Lib.hid (by have := HB2.out; omega)
  obtain ⟨L0, hL0, hge0⟩ := hl3'.start
  have K0 : Hid (KeptP w x3 lb d 0 [] L0 (.slice none 0 0)) := Lib.hid ⟨hL0, fun k hk => Nat.le_trans B1.out.size (hge0 k hk), Txs.nil _ _, by simp, by simp, by simp, B1.out.trans (hl3'.1.belowAll.mono B1.out.size)⟩
  clear hl3 hl3' hok D2 hL0 hge0 T1 hneg
  go_upto_block 0 with fail
  go_cut [11, 12, 13] from 42 to 64 (fun v _ _ wr => ∃ (k : Nat) (T : List (List UInt8)) (L : List Nat), k ≤ 8 ∧ KeptP w wr lb d k T L v)
  case first =>
    go_wp2_with fail
    go_loopw [11, 12] (fun v i wr => ∃ (k : Nat) (T : List (List UInt8)) (L : List Nat), k ≤ l0.length ∧ k ≤ 8 ∧ i = .int .i64 k ∧ KeptP w wr lb d k T L v) (fun _ i _ => 8 - (intOf i).toNat)
    case atStart => exact ⟨0, [], L0, by omega, by omega, rfl, K0.out⟩
    case round =>
      clear K0 B1
      obtain ⟨k, T, L, hk, hk8, rfl, hkp⟩ := hrel
      have KP := Lib.hid hkp
      have hTk := hkp.few
      obtain ⟨av, cv, hv, -⟩ := hkp.row.form
      subst hv
      clear hkp
      obtain ⟨nT, hnT⟩ : ∃ n, n = T.length := ⟨_, rfl⟩
      have HNT := Lib.hid hnT
      rw [← hnT] at hTk KP ⊢
      clear hnT
      have hfl : Hid ((frs T).length ≤ 288) := Lib.hid (by have h1 := frs_le KP.out.short; rw [← HNT.out] at h1; omega)
      by_cases hlt : k < l0.length ∧ k < 8
      · obtain ⟨hl, h8⟩ := hlt
        obtain ⟨ob, off, ha0, hob, hop⟩ := H0.out.at (by intro e; rw [e] at hl; simp at hl)
        subst ha0
        obtain ⟨ax, cx, hcell, hslx⟩ := hop k hl
        have hz := (KP.out.bel.cell (p := ⟨ob, off + k, none⟩) hob).trans hcell
        have hsx := hslx.belowAll KP.out.bel
        clear hop hcell hslx
        generalize l0.getD k [] = x at hz hsx
        obtain ⟨nl, hnl⟩ : ∃ nx, nx = x.length := ⟨_, rfl⟩
        have hd8 : decide ((k : Int) < 8) = true := by simp; omega
        have CSH := Lib.hid (short_new ax cx 30 x wr hsx (by omega))
        rw [← hnl] at hz CSH
        clear hsx hnl
        go_wp2_with fail
        refine CSH.out.mono ?_
        rintro e x4 ⟨ao, co, rfl, hs4, hb4, ha4⟩
        obtain ⟨y, hy⟩ : ∃ y, y = x.take 30 := ⟨_, rfl⟩
        have hy30 : y.length ≤ 30 := by rw [hy, List.length_take]; omega
        rw [← hy] at hs4 ⊢
        have t4 := Turn.of_below hb4 []
        have LA4 := Lib.hid (KP.out.log.shift t4 (by simp) (by simp))
        have hsz4 := hb4.size
        have S4 := Lib.hid hs4
        have A4 := Lib.hid ha4
        have B4 := Lib.hid (KP.out.bel.trans (hb4.mono KP.out.bel.size))
        have R4 := Lib.hid ((KP.out.row.imp (Q := fun g => (g ∉ L ∧ w.heap.size ≤ g) ∧ g < wr.heap.size) (fun g hg hp => ⟨hp, hg⟩)).turn t4 (fun _ _ => by simp))
        clear hy hs4 ha4 hb4 t4 hz CSH
        by_cases hye : y = []
        · subst hye
          have hdz : decide (0 < ([] : List UInt8).length) = false := rfl
          go_wp2_with fail
          refine (add_form LA4.out.1 ao co [] (by decide)).mono ?_
          rintro e x5 ⟨rfl, rfl⟩
          go_wp2
          go_roundw
          case rel => exact ⟨k + 1, T, L, by omega, by omega, by go_num, ⟨LA4.out, KP.out.ge, R4.out.imp (fun g _ hp => hp.1), by rw [← HNT.out]; omega, KP.out.short, KP.out.ok, B4.out⟩⟩
          case measure => simp [intOf]; omega
        · have hyp : 0 < y.length := List.length_pos_iff.2 hye
          have hok : okF y = true := okF_iff.2 ⟨by omega, by omega⟩
          have hnl : ∀ A, ao = some A → A.block ∉ L := fun A hA hm => by have h1 := KP.out.log.2 _ hm; have h2 := A4.out A hA; omega
          have hto := oneM_to (T := T) (by have := hfl.out; omega)
          have CA := add_calls LA4.out.1 ao co y hok S4.out (fun A hA _ => hnl A hA) (by rw [hto.1]; omega) (by rw [← HNT.out]; omega)
          rw [hto.1, hto.2, oneM_app.1, oneM_app.2, if_neg (by have := hfl.out; unfold rBig; omega), if_neg (by have := hfl.out; unfold rBig; omega)] at CA
          have HCA := Lib.hid CA
          have HNL := Lib.hid hnl
          have HOK := Lib.hid hok
          clear CA hnl hok hto
          go_wp2_with fail
          refine HCA.out.mono ?_
          rintro e x5 ⟨rfl, hl5, -⟩
          have hl5' := hl5 (by trivial)
          obtain ⟨L', hL', hin'⟩ := hl5'.next
          have t5 := hl5'.1
          have S5 := Lib.hid (S4.out.turn t5 (fun A hA _ => HNL.out A hA))
          have R5 := Lib.hid (R4.out.turn t5 (fun g hg => hg.1.1))
          have B5 := Lib.hid (B4.out.trans (t5.below KP.out.ge B4.out.size))
          have LA5 := Lib.hid hL'
          have IN5 := Lib.hid hin'
          have hsz5 := t5.size
          have GE5 : Hid (∀ j ∈ L', w.heap.size ≤ j) := Lib.hid (fun j hj => by
            rcases IN5.out j hj with h1 | h1
            · exact KP.out.ge j h1
            · exact Nat.le_trans B4.out.size h1)
          clear hl5 hl5' t5 hL' hin' HCA R4 LA4
          obtain ⟨ny, hny⟩ : ∃ n, n = y.length := ⟨_, rfl⟩
          have HNY := Lib.hid hny
          rw [← hny] at hyp ⊢
          have tA := Turn.alloc [] x5 (.cells #[.slice ao ny co] 31)
          obtain ⟨xs, hxs, hfin⟩ := Txs.appended (U := [y]) (Q := fun g => g ∉ L' ∧ w.heap.size ≤ g) (R5.out.turn tA (fun _ _ => by simp)) [.slice ao ny co] rfl (fun i hi => by
            have hi0 : i = 0 := by simpa using hi
            subst hi0
            refine ⟨ao, co, by rw [HNY.out]; rfl, S5.out.turn tA (by simp), fun A hA _ => ?_⟩
            have h1 := A4.out A hA
            have h2 : A.block < x4.heap.size := by have h3 := S4.out; rw [hA] at h3; exact h3.lt (by intro e2; rw [e2] at hye; exact hye rfl)
            refine ⟨⟨fun hm => ?_, by have := KP.out.bel.size; omega⟩, fun e2 => ?_⟩
            · rcases IN5.out _ hm with h4 | h4
              · have := KP.out.log.2 _ h4; omega
              · omega
            · have := (R5.out.1 _ e2).2; omega) (fun g hg => ⟨fun hm => by
              rcases IN5.out _ hm with h4 | h4
              · exact hg.1.1 h4
              · have := hg.2; omega, hg.1.2⟩) (fun g hg => ⟨fun hm => by have := LA5.out.2 _ hm; simp at hg; omega, by have := B5.out.size; simp at hg; omega⟩)
          have HX := Lib.hid hxs
          have HF := Lib.hid hfin
          have HY1 : ∀ u ∈ [Value.slice ao ny co], u.oneCell' = true := by intro u hu; simp at hu; subst hu; rfl
          clear hxs hfin tA hny
          rw [← HNT.out] at HX HF
          go_wp2_with (at_builtin; refine append_tx rfl (.tmp 61) (.tmp 63) rfl (.slice av nT cv) nT xs rfl HX.out ⟨x5.heap.size, 0, none⟩ 1 1 [.slice ao ny co] rfl rfl (one_new x5 _ _) HY1 (by omega) ?_)
          intro v7 x7 hown7 hg7 hat7
          have TX7 := HF.out v7 x7 hown7 hg7 (by rcases hat7 with h1 | h1; exact .inl h1; exact .inr (by rw [h1]; simp))
          have tg := (Turn.alloc (Value.slice av nT cv).ownBlock.toList x5 (.cells #[.slice ao ny co] 31)).trans (Turn.grown (l := (Value.slice av nT cv).ownBlock.toList) hg7 (fun k hk => .inl (by rw [hk]; simp))) (fun i hi => .inl hi)
          have hown : ∀ g ∈ (Value.slice av nT cv).ownBlock.toList, g ∉ L' ∧ w.heap.size ≤ g := fun g hg => by
            have h1 := R5.out.1 g (Option.mem_toList.1 hg)
            refine ⟨fun hm => ?_, h1.1.2⟩
            rcases IN5.out _ hm with h4 | h4
            · exact h1.1.1 h4
            · have := h1.2; omega
          have LA7 := LA5.out.shift tg (fun g hg => (hown g hg).1) (fun hm => by have h1 := (hown _ hm).2; have h2 := HTB.out.lt; omega)
          have B7 := B5.out.trans (tg.below (fun g hg => (hown g hg).2) B5.out.size)
          obtain ⟨a7, c7, hv7, -⟩ := TX7.form
          rw [List.length_append, List.length_singleton, ← HNT.out] at hv7
          subst hv7
          have K9 : Hid (KeptP w x7 lb d (k + 1) (T ++ [y]) L' (.slice a7 (nT + 1) c7)) := Lib.hid ⟨LA7, GE5.out, TX7, by simp; have := HNT.out; omega, fun t ht => by
              rcases List.mem_append.1 ht with h1 | h1
              · exact KP.out.short t h1
              · simp at h1; rw [h1]; exact hy30, fun t ht => by
              rcases List.mem_append.1 ht with h1 | h1
              · exact KP.out.ok t h1
              · simp at h1; rw [h1]; exact HOK.out, B7⟩
          clear TX7 tg hown hown7 hg7 hat7 HX HF HY1 R5 B5 LA5 S5 B4 A4 S4 IN5 HNL LA7 B7 KP GE5
          go_wp2
          go_roundw
          case rel => exact ⟨k + 1, T ++ [y], L', by omega, by omega, by go_num, K9.out⟩
          case measure => simp [intOf]; omega
      · by_cases hl : k < l0.length
        · have hd8 : decide ((k : Int) < 8) = false := by simp; omega
          go_wp2_with fail
          go_meet
          exact ⟨k, T, L, hk8, KP.out⟩
        · go_wp2_with fail
          go_meet
          exact ⟨k, T, L, hk8, KP.out⟩
  case rest =>
    obtain ⟨k, T, L, hk8, hkp⟩ := hcut
    have KP := Lib.hid hkp
    have hTk := hkp.few
    obtain ⟨av, cv, hv, hcv1, -, hform⟩ := hkp.row.form
    subst hv
    clear hkp K0 B1
    obtain ⟨nT, hnT⟩ : ∃ n, n = T.length := ⟨_, rfl⟩
    have HNT := Lib.hid hnT
    rw [← hnT] at hTk KP hcv1 ⊢
    clear hnT
    have hfl : Hid ((frs T).length ≤ 288) := Lib.hid (by have h1 := frs_le KP.out.short; rw [← HNT.out] at h1; omega)
    by_cases hT0 : T = []
    · subst hT0
      have hnT0 : nT = 0 := HNT.out
      subst hnT0
      have CR := lg_read KP.out.log.1 (segName_len 0)
      rw [oneM_bytes, show hasF (oneM []) (segName 0) = false from rfl] at CR
      have HCR := Lib.hid CR
      clear CR
      go_wp2_with fail
      refine HCR.out.mono ?_
      rintro e x5 ⟨ar, cr, rfl, -, -, -, hb5⟩
      have B5 := Lib.hid (KP.out.bel.trans (hb5.mono KP.out.bel.size))
      clear hb5
      go_wp2
      go_ret
      exact ⟨rfl, B5.out⟩
    obtain ⟨ga, rfl⟩ : ∃ g, av = some ⟨g, 0, none⟩ := by
      rcases hform with ⟨-, h1, -⟩ | h1
      · exact absurd h1 hT0
      · exact h1
    clear hform
    have hnT0 : 0 < nT := by rw [HNT.out]; exact List.length_pos_iff.2 hT0
    have hfb0 : frs T ≠ [] := fun e => hT0 (frs_empty e)
    have CR := lg_read_own KP.out.log.1 (n := segName 0) (by rw [oneM_has]; simp [hT0])
    rw [oneM_bytes] at CR
    obtain ⟨fb, hfb⟩ : ∃ f, f = frs T := ⟨_, rfl⟩
    rw [← hfb] at CR hfb0
    have HCR := Lib.hid CR
    have HFB := Lib.hid hfb
    have hfbl : Hid (0 < fb.length ∧ fb.length ≤ 288) := Lib.hid ⟨List.length_pos_iff.2 hfb0, by rw [hfb]; exact hfl.out⟩
    clear CR hfb hfl hfb0 hT0
    go_wp2_with fail
    refine HCR.out.mono ?_
    rintro e x5 ⟨v5, rfl, hrow5, hb5⟩
    obtain ⟨-, ⟨-, h0⟩ | ⟨gr, cr, cur, rfl, hgr, hhp, -⟩⟩ := id hrow5
    · have := hfbl.out; omega
    have TX5 := Lib.hid ((KP.out.row.imp (Q := fun g => g < x5.heap.size ∧ g ≠ gr) (fun g hg hp => ⟨Nat.lt_of_lt_of_le hg hb5.size, by omega⟩)).turn (Turn.of_below hb5 []) (fun _ _ => by simp))
    have B5 := Lib.hid (KP.out.bel.trans (hb5.mono KP.out.bel.size))
    have T5 := Lib.hid (HTB.out.turn (Turn.of_below B5.out []) (by simp))
    have OKT := Lib.hid KP.out.ok
    have SHT := Lib.hid KP.out.short
    have R5 := Lib.hid hrow5
    have G5 : Hid (w.heap.size ≤ gr ∧ gr < x5.heap.size) := Lib.hid ⟨by have := KP.out.bel.size; omega, lt_of_heap hhp⟩
    obtain ⟨nb, hnb⟩ : ∃ n, n = fb.length := ⟨_, rfl⟩
    obtain ⟨kk, hkk⟩ : ∃ k, k = na % nb := ⟨_, rfl⟩
    have hnb0 : 0 < nb ∧ nb ≤ 288 := by have := hfbl.out; omega
    have hklt : kk < nb := by rw [hkk]; exact Nat.mod_lt _ (by omega)
    have hm0 : na % nb = kk := hkk.symm
    have hm1 : (na : Int) % (nb : Int) = (kk : Int) := by rw [hkk]; rfl
    have hm2 : (na : Int).tmod (nb : Int) = (kk : Int) := by rw [Int.tmod_eq_emod_of_nonneg (by omega)]; exact hm1
    have hnz1 : ¬ (nb : Int) = 0 := by omega
    have hnz2 : ((nb : Int) == 0) = false := by simp; omega
    have HNB := Lib.hid hnb
    rw [← hnb]
    have hcell : x5.cell? ⟨gr, kk, none⟩ = some (.int .u8 ((fb.getD kk 0).toNat : Int)) := by
      rw [hrow5.cellAt kk (by rw [← hnb]; omega)]
      exact u8s_at (by rw [← hnb]; exact hklt)
    have hfz := hrow5.frozenAt kk
    obtain ⟨p, hp⟩ : ∃ p, p = (fb.getD kk 0).toNat := ⟨_, rfl⟩
    rw [← hp] at hcell
    have hpl : p < 256 := by rw [hp]; exact (fb.getD kk 0).toNat_lt
    have hxr : bits .xor .u8 (p : Int) (nx : Int) = ((p ^^^ nx : Nat) : Int) := xor_u8 p nx hpl HX0.out.2
    obtain ⟨z, hz⟩ : ∃ z, z = p ^^^ nx := ⟨_, rfl⟩
    rw [← hz] at hxr
    have hzl : z < 256 := by rw [hz]; exact Nat.xor_lt_two_pow (n := 8) (by omega) (by have := HX0.out.2; omega)
    have HZ : Hid (UInt8.ofNat z ≠ fb.getD kk 0) := Lib.hid (fun e => by
      have h1 := congrArg UInt8.toNat e
      rw [UInt8.toNat_ofNat', Nat.mod_eq_of_lt hzl, ← hp, hz] at h1
      exact xor_ne HX0.out.1 h1)
    obtain ⟨D, hD⟩ : ∃ D, D = fb.set kk (UInt8.ofNat z) := ⟨_, rfl⟩
    have hDl : D.length = nb := by rw [hD, List.length_set, hnb]
    have hR5 := ownsRow_base (base' := 0) hrow5 (fun _ _ => Nat.zero_le _)
    obtain ⟨x10, hx10⟩ : ∃ x, x = x5.setCell ⟨gr, kk, none⟩ (.int .u8 (z : Int)) := ⟨_, rfl⟩
    have hR10 : x10.ownsRow 0 5 1 (.slice (some ⟨gr, 0, none⟩) fb.length cr) D.length (u8s D) := by
      have h1 := (hR5.stored kk (.int .u8 (z : Int))).1
      rw [← hx10] at h1
      rw [hDl, hnb]
      have e : u8s D = (u8s fb).set kk (.int .u8 (z : Int)) := by
        rw [hD]
        unfold u8s
        rw [List.map_set, UInt8.toNat_ofNat', Nat.mod_eq_of_lt hzl]
      rw [e]
      exact h1
    have t10 : Turn [gr] x5 x10 := by rw [hx10]; exact Turn.setCell x5 (by simp) _
    have TX10 := Lib.hid (TX5.out.turn t10 (fun g hg hm => hg.2 (by simpa using hm)))
    have SD10 : Hid (Sl x10 (some ⟨gr, 0, none⟩) cr D) := Lib.hid (by
      rw [show fb.length = D.length by rw [hDl, hnb]] at hR10
      obtain ⟨a, c, he, hs, -⟩ := Sl.of_owns hR10
      injection he with e1 e2 e3
      subst e1 e3
      exact hs)
    have B10 := Lib.hid (B5.out.trans (t10.below (fun g hg => by rw [List.mem_singleton.1 hg]; exact G5.out.1) B5.out.size))
    have T10 := Lib.hid (T5.out.turn t10 (by have h2 := HTB.out.lt; have := G5.out.1; simp; omega))
    have G10 : Hid (gr < x10.heap.size) := Lib.hid (Nat.lt_of_lt_of_le G5.out.2 t10.size)
    have HX10 := Lib.hid hx10
    have HD := Lib.hid hD
    have HDL := Lib.hid hDl
    have hik : (kk : Int) < (nb : Int) := by omega
    clear hb5 hrow5 hR5 hR10 t10 hx10 hD hDl hhp hgr hp hz hpl hzl hkk hnb R5 TX5 B5 T5 G5 KP HCR
    go_upto_block 2 with fail
    rw [← HX10.out]
    clear hcell hfz hxr HX10 hm0 hm1 hm2 hnz1 hnz2 hik hd0 hx1
    go_cut [16, 17] from 91 to 110 (fun vk vf wx => ∃ k f : Nat, k < nT ∧ vk = .int .i64 (k : Int) ∧ vf = .int .i64 (f : Int) ∧ f = (frs (T.take k)).length ∧ Turn [] x10 wx ∧ f ≤ kk ∧ kk < (frs (T.take (k + 1))).length)
    case first =>
      go_wp2_with fail
      go_loopw [16, 17] (fun vk vf wx => ∃ k f : Nat, k < nT ∧ vk = .int .i64 (k : Int) ∧ vf = .int .i64 (f : Int) ∧ f = (frs (T.take k)).length ∧ Turn [] x10 wx ∧ f ≤ kk) (fun vk _ _ => nT - (intOf vk).toNat)
      case atStart => exact ⟨0, 0, hnT0, rfl, rfl, by simp [frs_nil], Turn.refl _ _, by omega⟩
      case round =>
        obtain ⟨k, f, hk, rfl, rfl, hf, htk, hfk⟩ := hrel
        have hkT : k < T.length := by rw [← HNT.out]; exact hk
        have TXk := TX10.out.turn htk (by simp)
        rw [HNT.out] at TXk
        obtain ⟨a', c', hcell2, -⟩ := TXk.at hkT
        obtain ⟨m, hm⟩ : ∃ m, m = T[k].length := ⟨_, rfl⟩
        have hm30 : m ≤ 30 := by rw [hm]; exact SHT.out _ (List.getElem_mem hkT)
        rw [← hm] at hcell2
        have HNX : Hid ((frs (T.take (k + 1))).length = f + 6 + m) := Lib.hid (by
          rw [List.take_succ_eq_append_getElem hkT, frs_append, frs_one, List.length_append, frB_length, ← hf, ← hm]; omega)
        have HTK := Lib.hid htk
        have HF := Lib.hid hf
        clear TXk hm hf htk
        by_cases hle : f + 6 + m ≤ kk
        · have hle1 : (f : Int) + 6 + (m : Int) ≤ (kk : Int) := by omega
          have hk1 : k + 1 < nT := by
            false_or_by_contra
            have h1 := HNX.out
            rw [List.take_of_length_le (by rw [← HNT.out]; omega), ← HFB.out, ← HNB.out] at h1
            omega
          have HK1 := Lib.hid hk1
          have HLE := Lib.hid hle
          clear hk1 hle
          go_wp2
          go_roundw
          case rel => exact ⟨k + 1, f + 6 + m, HK1.out, by go_num, by go_num, HNX.out.symm, HTK.out, HLE.out⟩
          case measure => have := HK1.out; simp [intOf]; omega
        · have hle1 : ¬ (f : Int) + 6 + (m : Int) ≤ (kk : Int) := by omega
          go_wp2_with fail
          go_meet
          exact ⟨k, f, hk, rfl, rfl, HF.out, HTK.out, hfk, by rw [HNX.out]; omega⟩
    case rest =>
      obtain ⟨k, f, hk, rfl, rfl, hf, htk, hfk, hnx⟩ := hcut
      obtain ⟨x12, hx12⟩ : ∃ x, x = wc := ⟨_, rfl⟩
      subst hx12
      have hst := spoilt (T := T) OKT.out (k := k) (i := kk) (by rw [← HNT.out]; exact hk) (by rw [← hf]; exact hfk) hnx (z := UInt8.ofNat z) (by rw [← HFB.out]; exact HZ.out)
      rw [← HFB.out, ← HD.out, ← hf] at hst
      have HST := Lib.hid hst
      have TX12 := Lib.hid ((TX10.out.turn htk (by simp)).tl.2)
      have SD12 := Lib.hid (SD10.out.turn htk (by simp))
      have B12 := Lib.hid (B10.out.trans (htk.belowAll.mono B10.out.size))
      have T12 := Lib.hid (T10.out.turn htk (by simp))
      have G12 : Hid (gr < x12.heap.size) := Lib.hid (Nat.lt_of_lt_of_le G10.out htk.size)
      have HF := Lib.hid hf
      clear hst htk hnx hf TX10 SD10 B10 T10 G10
      go_wp2_with fail
      refine (dk_new 1048576 x12).mono ?_
      rintro e x13 ⟨rfl, hd13⟩
      rw [room_big] at hd13
      obtain ⟨gd, hgd⟩ : ∃ d, d = x12.heap.size := ⟨_, rfl⟩
      rw [← hgd] at hd13 ⊢
      have CA := dk_append_free (n := segName 0) hd13 (segName_len 0) (Turn.refl [] x13) (SD12.out.belowAll hd13.1) (fun A hA _ => .inl (by cases hA; exact G12.out))
      have hDr : D.length ≤ rBig := by rw [HDL.out]; unfold rBig; omega
      rw [(app_none hDr).1, (app_none hDr).2, HDL.out, ← name0] at CA
      have HCA := Lib.hid CA
      clear CA hd13 hgd hDr
      go_wp2_with fail
      refine HCA.out.mono ?_
      rintro e x14 ⟨rfl, hd14⟩
      have B14 := Lib.hid (B12.out.trans (hd14.1.mono B12.out.size))
      have CO := open_calls hd14 T12.out 0 (by decide) 400 (fun j => by
        rw [(oneS_at _ _ _).2.1]
        have h1 := bytesOf_le (M := oneS D 0 false) (segName j)
        rw [tot_oneS, HDL.out] at h1
        omega) (by rw [(oneS_at _ _ _).1]; decide)
      have HD14 := Lib.hid hd14.1
      obtain ⟨o1, o2, o3⟩ := open_one (oneS_at D 0 false).1 (oneS_at D 0 false).2.1 (by rw [HDL.out]; omega)
      rcases HST.out with e3 | ⟨e02, hlt2, W, hW⟩
      · have ho := o3 e3
        have HCO := Lib.hid CO
        have HO := Lib.hid ho
        clear CO o1 o2 o3 ho hd14 HCA
        go_wp2_with fail
        refine HCO.out.mono ?_
        rintro e x15 ⟨-, hbad⟩
        obtain ⟨rfl, hd15⟩ := hbad (by rw [HO.out]; decide)
        rw [HO.out]
        have B15 := Lib.hid (B12.out.trans (hd15.1.mono B12.out.size))
        clear hbad hd15
        go_wp2
        go_ret
        exact ⟨rfl, B15.out⟩
      · have ho : ∃ M', openF rBig (oneS D 0 false) 0 = (0, T.take k ++ W, M') := by
          rw [← hW]
          rcases e02 with e | e
          · exact ⟨_, o1 e⟩
          · exact ⟨_, o2 e⟩
        obtain ⟨M', ho⟩ := ho
        rw [ho, (oneS_at D 0 false).1] at CO
        have HCO := Lib.hid CO
        have HW := Lib.hid hW
        have hWc : (unfr D).1.length ≤ D.length := unfr_count D.length D (Nat.le_refl _)
        obtain ⟨U, hU⟩ : ∃ U, U = T.take k ++ W := ⟨_, rfl⟩
        obtain ⟨nU, hnU⟩ : ∃ n, n = U.length := ⟨_, rfl⟩
        have hUk : U.take k = T.take k := by rw [hU, List.take_append_of_le_length (by rw [List.length_take, ← HNT.out]; omega), List.take_take, Nat.min_self]
        have hkU : k ≤ nU := by rw [hnU, hU, List.length_append, List.length_take, ← HNT.out]; omega
        rw [hW, ← hU, ← hnU, HDL.out] at hWc
        have hUl : Hid (∀ i (hi : i < U.length), U[i].length ≤ 1048576) := Lib.hid (fun i hi => by
          have h1 := unfr_short D.length D (Nat.le_refl _) U[i] (by rw [hW, ← hU]; exact List.getElem_mem hi)
          omega)
        rw [← hU] at HCO
        have HU := Lib.hid hU
        have HUK := Lib.hid hUk
        have HNU := Lib.hid hnU
        clear CO o1 o2 o3 ho hd14 HCA hW hU hUk hnU e02
        go_wp2_with fail
        refine HCO.out.mono ?_
        rintro e y1 ⟨hok2, -⟩
        obtain ⟨lb2, rfl, hl2⟩ := hok2 (by trivial)
        have L2 := Lib.hid hl2
        clear hok2 hl2 HCO
        have CALL := all_calls L2.out hUl.out
        rw [← HNU.out] at CALL
        have HALL := Lib.hid CALL
        have BY := L2.out.1.belowAll
        have BY1 := Lib.hid (B12.out.trans (BY.mono B12.out.size))
        have TX1 := Lib.hid (TX12.out.turn BY)
        clear CALL BY
        go_wp2_with fail
        refine HALL.out.mono ?_
        rintro e y2 ⟨rfl, htx, hb2⟩
        have BY2 := Lib.hid (BY1.out.trans (hb2.mono BY1.out.size))
        have HEQ := Lib.hid (show ∀ wx, Turn [] y2 wx → Calls Tryz.prog 15 #[.slice (some ⟨y1.heap.size, 0, none⟩) k nU, .slice (some ⟨ga, 0, none⟩) k cv] wx fun e w' => e = .returned (.bool true) ∧ Below wx.heap.size wx w' from fun wx tx => by
          have h1 := (htx.tl.2.turn tx.belowAll).take k
          have h2 := ((TX1.out.turn hb2).turn tx.belowAll).take k
          rw [HUK.out] at h1
          have h3 := eq_calls _ _ _ _ (T.take k) wx h1 h2
          rw [show (T.take k).length = k by rw [List.length_take, ← HNT.out]; omega] at h3
          exact h3)
        have hs1 := fun wx => slice_texts (some ⟨y1.heap.size, 0, none⟩) nU nU k hkU wx
        have hs2 := fun wx => slice_texts (some ⟨ga, 0, none⟩) nT cv k (by omega) wx
        have hwr : IntKind.i64.wrap ((kk : Int) - (f : Int)) = (kk : Int) - (f : Int) := by rw [IntKind.wrap_i64]; omega
        have hlt3 : decide ((kk : Int) - (f : Int) < 2) = true := by simp; omega
        have hge3 : decide ((k : Int) ≤ (nU : Int)) = true := by simp; omega
        clear htx hb2 HALL
        go_upto_region 30 with fail
        refine wp_region_any (by kernel_rfl) ?_
        refine any_take (i := 0) (d := some 126) (v := ?_) rfl (by rfl) (by kernel_rfl) (by kernel_rfl) (by kernel_rfl) (fun _ _ _ h => h) (by rfl) ?_ ?_
        rotate_left
        · intro wz
          go_simp
          try with_reducible rfl
        simp only [Act.put, List.setIfInBounds_toArray, List.set_cons_zero, List.set_cons_succ]
        refine any_take (i := 1) (d := some 127) (v := ?_) rfl (by rfl) (by kernel_rfl) (by kernel_rfl) (by kernel_rfl) (fun _ _ _ h => h) (by rfl) ?_ ?_
        rotate_left
        · intro wz
          go_simp
          try with_reducible rfl
        simp only [Act.put, List.setIfInBounds_toArray, List.set_cons_zero, List.set_cons_succ]
        refine any_take (i := 2) (d := some 128) (v := .int .i64 ((kk : Int) - (f : Int))) rfl (by rfl) (by kernel_rfl) (by kernel_rfl) (by kernel_rfl) (fun _ _ _ h => h) (by rfl) ?_ ?_
        · intro wz
          go_simp
        simp only [Act.put, List.setIfInBounds_toArray, List.set_cons_zero, List.set_cons_succ]
        refine any_take (i := 3) (d := some 129) (v := .bool true) rfl (by rfl) (by kernel_rfl) (by kernel_rfl) (by kernel_rfl) (fun _ _ _ h => h) (by rfl) ?_ ?_
        · intro wz
          go_simp
        simp only [Act.put, List.setIfInBounds_toArray, List.set_cons_zero, List.set_cons_succ]
        refine any_take (i := 4) (d := some 130) (v := ?_) rfl (by rfl) (by kernel_rfl) (by kernel_rfl) (by kernel_rfl) (fun _ _ _ h => h) (by rfl) ?_ ?_
        rotate_left
        · intro wz
          go_simp
          try with_reducible rfl
        simp only [Act.put, List.setIfInBounds_toArray, List.set_cons_zero, List.set_cons_succ]
        refine any_take (i := 5) (d := some 131) (v := ?_) rfl (by rfl) (by kernel_rfl) (by kernel_rfl) (by kernel_rfl) (fun _ _ _ h => h) (by rfl) ?_ ?_
        rotate_left
        · intro wz
          go_simp
          try with_reducible rfl
        simp only [Act.put, List.setIfInBounds_toArray, List.set_cons_zero, List.set_cons_succ]
        refine any_take (i := 6) (d := some 132) (v := .int .i64 (nU : Int)) rfl (by rfl) (by kernel_rfl) (by kernel_rfl) (by kernel_rfl) (fun _ _ _ h => h) (by rfl) ?_ ?_
        · intro wz
          go_simp
        simp only [Act.put, List.setIfInBounds_toArray, List.set_cons_zero, List.set_cons_succ]
        refine any_take (i := 7) (d := some 133) (v := ?_) rfl (by rfl) (by kernel_rfl) (by kernel_rfl) (by kernel_rfl) (fun _ _ _ h => h) (by rfl) ?_ ?_
        rotate_left
        · intro wz
          go_simp
          try with_reducible rfl
        simp only [Act.put, List.setIfInBounds_toArray, List.set_cons_zero, List.set_cons_succ]
        refine any_take (i := 8) (d := some 134) (v := .bool true) rfl (by rfl) (by kernel_rfl) (by kernel_rfl) (by kernel_rfl) (fun _ _ _ h => h) (by rfl) ?_ ?_
        · intro wz
          go_simp
        simp only [Act.put, List.setIfInBounds_toArray, List.set_cons_zero, List.set_cons_succ]
        refine any_take (i := 9) (d := some 135) (v := .bool true) rfl (by rfl) (by kernel_rfl) (by kernel_rfl) (by kernel_rfl) (fun _ _ _ h => h) (by rfl) ?_ ?_
        · intro wz
          go_simp
        simp only [Act.put, List.setIfInBounds_toArray, List.set_cons_zero, List.set_cons_succ]
        refine any_take (i := 10) (d := some 136) (v := ?_) rfl (by rfl) (by kernel_rfl) (by kernel_rfl) (by kernel_rfl) (fun _ _ _ h => h) (by rfl) ?_ ?_
        rotate_left
        · intro wz
          go_simp
          try with_reducible rfl
        simp only [Act.put, List.setIfInBounds_toArray, List.set_cons_zero, List.set_cons_succ]
        refine any_take (i := 11) (d := some 137) (v := ?_) rfl (by rfl) (by kernel_rfl) (by kernel_rfl) (by kernel_rfl) (fun _ _ _ h => h) (by rfl) ?_ ?_
        rotate_left
        · intro wz
          go_simp
          try with_reducible rfl
        simp only [Act.put, List.setIfInBounds_toArray, List.set_cons_zero, List.set_cons_succ]
        refine any_take (i := 12) (d := some 138) (v := ?_) rfl (by rfl) (by kernel_rfl) (by kernel_rfl) (by kernel_rfl) (fun _ _ _ h => h) (by rfl) ?_ ?_
        rotate_left
        · intro wz
          go_simp
          try with_reducible rfl
        simp only [Act.put, List.setIfInBounds_toArray, List.set_cons_zero, List.set_cons_succ]
        refine any_take (i := 13) (d := some 139) (v := .slice (some ⟨y1.heap.size, 0, none⟩) k nU) rfl (by rfl) (by kernel_rfl) (by kernel_rfl) (by kernel_rfl) (fun _ _ _ h => h) (by rfl) ?_ ?_
        · intro wz
          go_simp
        simp only [Act.put, List.setIfInBounds_toArray, List.set_cons_zero, List.set_cons_succ]
        refine any_take (i := 14) (d := some 140) (v := ?_) rfl (by rfl) (by kernel_rfl) (by kernel_rfl) (by kernel_rfl) (fun _ _ _ h => h) (by rfl) ?_ ?_
        rotate_left
        · intro wz
          go_simp
          try with_reducible rfl
        simp only [Act.put, List.setIfInBounds_toArray, List.set_cons_zero, List.set_cons_succ]
        refine any_take (i := 15) (d := some 141) (v := ?_) rfl (by rfl) (by kernel_rfl) (by kernel_rfl) (by kernel_rfl) (fun _ _ _ h => h) (by rfl) ?_ ?_
        rotate_left
        · intro wz
          go_simp
          try with_reducible rfl
        simp only [Act.put, List.setIfInBounds_toArray, List.set_cons_zero, List.set_cons_succ]
        refine any_take (i := 16) (d := some 142) (v := .slice (some ⟨ga, 0, none⟩) k cv) rfl (by rfl) (by kernel_rfl) (by kernel_rfl) (by kernel_rfl) (fun _ _ _ h => h) (by rfl) ?_ ?_
        · intro wz
          go_simp
        simp only [Act.put, List.setIfInBounds_toArray, List.set_cons_zero, List.set_cons_succ]
        refine any_one (i := 17) (by kernel_rfl) (by rfl) (fun K hK => ?_)
        refine step_call (by rfl) #[.slice (some ⟨y1.heap.size, 0, none⟩) k nU, .slice (some ⟨ga, 0, none⟩) k cv] rfl (by simp only [List.map_toArray, List.map_cons, List.map_nil]; rfl) Tryz.func15 (by kernel_rfl) (by kernel_rfl) ?_
        refine (HEQ.out _ (Turn.drew [] y2)).mono ?_
        rintro e y3 ⟨rfl, hb3⟩
        have BY3 := Lib.hid hb3
        clear hb3
        refine ⟨_, rfl, hK _ _ ?_⟩
        show wpAny _ _ _ _ _ _ (Act.put _ (some 143) _) _
        simp only [Act.put, List.setIfInBounds_toArray, List.set_cons_zero, List.set_cons_succ]
        refine any_take (i := 18) (d := some 144) (v := .bool true) rfl (by rfl) (by kernel_rfl) (by kernel_rfl) (by kernel_rfl) (fun _ _ _ h => h) (by rfl) ?_ ?_
        · intro wz
          go_simp
        simp only [Act.put, List.setIfInBounds_toArray, List.set_cons_zero, List.set_cons_succ]
        refine any_take (i := 19) (d := some 6) (v := .bool true) rfl (by rfl) (by kernel_rfl) (by kernel_rfl) (by kernel_rfl) (fun _ _ _ h => h) (by rfl) ?_ ?_
        · intro wz
          go_simp
        simp only [Act.put, List.setIfInBounds_toArray, List.set_cons_zero, List.set_cons_succ]
        refine any_done (by kernel_rfl) ?_ _
        go_wp2
        go_ret
        exact ⟨rfl, BY2.out.trans (((Turn.drew [] y2).belowAll.trans BY3.out).mono BY2.out.size)⟩
end Go.Proofs.YtjdpglmphacfjaaGreatDoor
