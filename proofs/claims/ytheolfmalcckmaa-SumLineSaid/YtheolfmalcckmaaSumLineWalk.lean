/-
  The walk of the law SumLine: the sum is a line over bits.
-/
import Derived.Test.YtheolfmalcckmaaOpen
import Derived.Test.YtheolfmalcckmaaShort
import Derived.StillTailTactics
import Derived.Deep.QuietTactic
import Derived.BigQuiet
import Derived.Lib.MinMax
namespace Go.Proofs.Ytheolfmalcckmaa
open Go.RowKit

theorem onN_line : ∀ (a b c y : List UInt8) (s t u : Nat), b.length = a.length → c.length = a.length → y.length = a.length →
    (∀ i, i < a.length → (y.getD i 0).toNat = ((a.getD i 0).toNat ^^^ (b.getD i 0).toNat) ^^^ (c.getD i 0).toNat) →
    onN ((s ^^^ t) ^^^ u) y = (onN s a ^^^ onN t b) ^^^ onN u c
  | [], b, c, y, s, t, u, hb, hc, hy, _ => by
    have := List.eq_nil_of_length_eq_zero hb
    have := List.eq_nil_of_length_eq_zero hc
    have := List.eq_nil_of_length_eq_zero hy
    subst_vars
    rfl
  | x :: a, b, c, y, s, t, u, hb, hc, hy, h => by
    match b, c, y, hb, hc, hy with
    | x2 :: b, x3 :: c, x4 :: y, hb, hc, hy =>
      rw [onN_cons, onN_cons, onN_cons, onN_cons]
      have h0 := h 0 (by simp)
      simp only [List.getD_cons_zero] at h0
      rw [h0, byteN_xor, byteN_xor]
      exact onN_line a b c y _ _ _ (by simpa using hb) (by simpa using hc) (by simpa using hy) (fun i hi => by
        have := h (i + 1) (by simpa using hi)
        simpa using this)

theorem notN_xor {a : Nat} (h : a < 4294967296) : notN a = 4294967295 ^^^ a := (xor_all h).symm

theorem sum_line (a b c y : List UInt8) (hb : b.length = a.length) (hc : c.length = a.length) (hy : y.length = a.length)
    (h : ∀ i, i < a.length → (y.getD i 0).toNat = ((a.getD i 0).toNat ^^^ (b.getD i 0).toNat) ^^^ (c.getD i 0).toNat) :
    (sumOn 0 a ^^^ sumOn 0 b) ^^^ sumOn 0 c = sumOn 0 y := by
  have key := onN_line a b c y 4294967295 4294967295 4294967295 hb hc hy h
  have e : (4294967295 ^^^ 4294967295) ^^^ 4294967295 = 4294967295 := by decide
  rw [e] at key
  have l1 : ∀ l, onN 4294967295 l < 4294967296 := fun l => onN_lt l (by omega)
  show (notN (onN 4294967295 a) ^^^ notN (onN 4294967295 b)) ^^^ notN (onN 4294967295 c) = notN (onN 4294967295 y)
  rw [key, notN_xor (l1 a), notN_xor (l1 b), notN_xor (l1 c), notN_xor (xor_lt32 (xor_lt32 (l1 a) (l1 b)) (l1 c))]
  generalize onN 4294967295 a = A
  generalize onN 4294967295 b = B
  generalize onN 4294967295 c = C
  rw [show ((4294967295 ^^^ A) ^^^ (4294967295 ^^^ B)) ^^^ (4294967295 ^^^ C) = ((4294967295 ^^^ 4294967295) ^^^ 4294967295) ^^^ ((A ^^^ B) ^^^ C) by ac_rfl, e]

theorem u8s_zeros (n : Nat) : List.replicate n (Value.int .u8 0) = u8s (List.replicate n 0) := by
  unfold u8s
  rw [List.map_replicate]
  rfl

theorem Sl.drewN {w : World} {ao : Option Addr} {c : Nat} {l : List UInt8} (h : Sl w ao c l) (n : Nat) : Sl (w.drewN n) ao c l := h

set_option maxHeartbeats 3000000 in
set_option maxRecDepth 100000 in
theorem sumLine_walk (a0 : Option Addr) (c0 : Nat) (l0 : List UInt8) (w : World) (h0 : Sl w a0 c0 l0) (a1 : Option Addr) (c1 : Nat) (l1 : List UInt8) (h1 : Sl w a1 c1 l1)
    (a2 : Option Addr) (c2 : Nat) (l2 : List UInt8) (h2 : Sl w a2 c2 l2) :
    Calls Try.prog 9 #[.slice a0 l0.length c0, .slice a1 l1.length c1, .slice a2 l2.length c2] w fun e w' => e = .returned (.bool true) ∧ Below w.heap.size w w' := by
  obtain ⟨i0, hi, hz0, hz1, hz2⟩ := info_parts Try.u8row
  have H0 := Lib.hid h0
  have H1 := Lib.hid h1
  have H2 := Lib.hid h2
  have hle0 := h0.le
  have hle1 := h1.le
  have hle2 := h2.le
  unfold maxLen at hle0 hle1 hle2
  clear h0 h1 h2
  obtain ⟨m1, e1, b1⟩ : ∃ m1 : Nat, min (l2.length : Int) 60 = (m1 : Int) ∧ m1 ≤ 60 ∧ m1 ≤ l2.length := ⟨min l2.length 60, by omega, by omega, by omega⟩
  obtain ⟨m2, e2, b2⟩ : ∃ m2 : Nat, min (l1.length : Int) (m1 : Int) = (m2 : Int) ∧ m2 ≤ m1 ∧ m2 ≤ l1.length := ⟨min l1.length m1, by omega, by omega, by omega⟩
  obtain ⟨n, e3, b3⟩ : ∃ n : Nat, min (l0.length : Int) (m2 : Int) = (n : Int) ∧ n ≤ m2 ∧ n ≤ l0.length := ⟨min l0.length m2, by omega, by omega, by omega⟩
  go_enter Try.func9, Try.ntmps9
  go_wp2_with fail
  refine (begun_calls _).mono ?_
  rintro e w1 ⟨rfl, hb1⟩
  have B1 := Lib.hid hb1
  have hz := hb1.size
  clear hb1
  go_wp2_with (at_make; refine wpList_make_full _ rfl (.tmp 23) (.tmp 23) 25 rfl w1.heap.size 5 i0 (.int .u8 0) 1 Try.underlying25 hi hz0 hz1 .i64 .i64 _ _ n rfl rfl rfl rfl (by rw [hz2]; omega) (by unfold maxLen; omega) (Nat.le_refl _) ?_)
  intro w2 hown2 hg2
  have B2 := Lib.hid (B1.out.grown hg2 hz (by intro k hk; cases hk))
  have N2 := Lib.hid ((Below.refl w1.heap.size w1).grown hg2 (Nat.le_refl _) (by intro k hk; cases hk))
  have O2 : Hid (w2.ownsRow w1.heap.size 5 1 (.slice (some ⟨w1.heap.size, 0, none⟩) n n) n (u8s (List.replicate n 0))) := by
    rw [← u8s_zeros, ← toList_madeCells_one (.int .u8 0) n]
    exact hown2
  have S0 := Lib.hid ((H0.out.belowAll B1.out).take n)
  have S1 := Lib.hid ((H1.out.belowAll B1.out).take n)
  have S2 := Lib.hid ((H2.out.belowAll B1.out).take n)
  clear hown2 hg2 e1 e2 e3 H0 H1 H2
  have la : (l0.take n).length = n := by simp; omega
  have lb : (l1.take n).length = n := by simp; omega
  have lc : (l2.take n).length = n := by simp; omega
  obtain ⟨x, hx⟩ : ∃ x, x = l0.take n := ⟨_, rfl⟩
  obtain ⟨y, hy⟩ : ∃ y, y = l1.take n := ⟨_, rfl⟩
  obtain ⟨z, hzz⟩ : ∃ z, z = l2.take n := ⟨_, rfl⟩
  rw [← hx] at S0 la
  rw [← hy] at S1 lb
  rw [← hzz] at S2 lc
  have LX := Lib.hid la
  have LY := Lib.hid lb
  have LZ := Lib.hid lc
  clear hx hy hzz la lb lc
  go_wp2_with fail
  go_loopw [27] (fun i wr => ∃ (k : Nat) (d : List UInt8), k ≤ n ∧ i = .int .i64 k ∧ d.length = n ∧ wr.ownsRow w1.heap.size 5 1 (.slice (some ⟨w1.heap.size, 0, none⟩) n n) n (u8s d) ∧
      (∀ i, i < k → (d.getD i 0).toNat = ((x.getD i 0).toNat ^^^ (y.getD i 0).toNat) ^^^ (z.getD i 0).toNat) ∧ Below w1.heap.size w1 wr) (fun i _ => n - (intOf i).toNat)
  case atStart => exact ⟨0, List.replicate n 0, by omega, rfl, by simp, O2.out, fun i hi => by omega, N2.out⟩
  case round =>
    obtain ⟨k, d, hk, rfl, hdl, hown, hd, hbel⟩ := hrel
    have HO := Lib.hid hown
    have HD := Lib.hid hd
    have HB := Lib.hid hbel
    have HL := Lib.hid hdl
    clear hown hd hbel hdl O2 N2
    by_cases hlt : k < n
    · obtain ⟨g0, o0, ha0, hg0, hc0⟩ := S0.out.row.at (by intro e; have := LX.out; rw [e] at this; simp at this; omega)
      obtain ⟨g1, o1, ha1, hg1, hc1⟩ := S1.out.row.at (by intro e; have := LY.out; rw [e] at this; simp at this; omega)
      obtain ⟨g2, o2, ha2, hg2, hc2⟩ := S2.out.row.at (by intro e; have := LZ.out; rw [e] at this; simp at this; omega)
      subst ha0 ha1 ha2
      have k0 := (HB.out.cell (p := ⟨g0, o0 + k, none⟩) hg0).trans (hc0 k (by rw [LX.out]; exact hlt))
      have k1 := (HB.out.cell (p := ⟨g1, o1 + k, none⟩) hg1).trans (hc1 k (by rw [LY.out]; exact hlt))
      have k2 := (HB.out.cell (p := ⟨g2, o2 + k, none⟩) hg2).trans (hc2 k (by rw [LZ.out]; exact hlt))
      clear hc0 hc1 hc2
      have x0 : (x.getD k 0).toNat < 256 := by have := (x.getD k 0).toNat_lt; omega
      have x1 : (y.getD k 0).toNat < 256 := by have := (y.getD k 0).toNat_lt; omega
      have x2 : (z.getD k 0).toNat < 256 := by have := (z.getD k 0).toNat_lt; omega
      have q1 := u8_xor_nat (x.getD k 0).toNat (y.getD k 0).toNat x0 x1
      have hxy : (x.getD k 0).toNat ^^^ (y.getD k 0).toNat < 256 := Nat.xor_lt_two_pow (n := 8) x0 x1
      have q2 := u8_xor_nat ((x.getD k 0).toNat ^^^ (y.getD k 0).toNat) (z.getD k 0).toNat hxy x2
      have hxyz : ((x.getD k 0).toNat ^^^ (y.getD k 0).toNat) ^^^ (z.getD k 0).toNat < 256 := Nat.xor_lt_two_pow (n := 8) hxy x2
      obtain ⟨v, hv⟩ : ∃ v, v = ((x.getD k 0).toNat ^^^ (y.getD k 0).toNat) ^^^ (z.getD k 0).toNat := ⟨_, rfl⟩
      rw [← hv] at q2 hxyz
      have HF := Lib.hid (HO.out.stored k (.int .u8 (v : Int)))
      have hV8 : (UInt8.ofNat v).toNat = v := by rw [UInt8.toNat_ofNat']; omega
      have HU := Lib.hid (show u8s (d.set k (UInt8.ofNat v)) = (u8s d).set k (.int .u8 (v : Int)) by unfold u8s; rw [List.map_set, hV8])
      have HD2 : Hid (∀ i, i < k + 1 → ((d.set k (UInt8.ofNat v)).getD i 0).toNat = ((x.getD i 0).toNat ^^^ (y.getD i 0).toNat) ^^^ (z.getD i 0).toNat) := Lib.hid (by
        intro i hi
        by_cases h : i = k
        · subst h
          have hil : i < d.length := by rw [HL.out]; exact hlt
          have : (d.set i (UInt8.ofNat v)).getD i 0 = UInt8.ofNat v := by simp [List.getD, hil]
          rw [this, hV8, hv]
        · have : (d.set k (UInt8.ofNat v)).getD i 0 = d.getD i 0 := by simp [List.getD, Ne.symm h]
          rw [this]
          exact HD.out i (by omega))
      generalize (x.getD k 0).toNat ^^^ (y.getD k 0).toNat = xy at *
      generalize (x.getD k 0).toNat = xk at *
      generalize (y.getD k 0).toNat = yk at *
      generalize (z.getD k 0).toNat = zk at *
      have hcell := HO.out.cellAt k (by omega)
      rw [u8s_at (by rw [HL.out]; exact hlt)] at hcell
      have hfr := HO.out.frozenAt k
      clear hv hV8 x0 x1 x2 hxy hxyz
      have p0 : (k : Int) < (l0.length : Int) := by omega
      have p1 : (k : Int) < (l1.length : Int) := by omega
      have p2 : (k : Int) < (l2.length : Int) := by omega
      have p3 : (k : Int) < (n : Int) := by omega
      have p4 : (0 : Int) ≤ (k : Int) := by omega
      go_wp2
      go_still_tail 17, (by kernel_rfl)
      change wpList _ _ _ _ _ wr.drew
      have HF2 : Hid ((wr.drew.setCell ⟨w1.heap.size, k, none⟩ (.int .u8 (v : Int))).ownsRow w1.heap.size 5 1 (.slice (some ⟨w1.heap.size, 0, none⟩) n n) n (u8s (d.set k (UInt8.ofNat v)))) := Lib.hid (by
        rw [HU.out]
        exact HF.out.1)
      have HB2 := Lib.hid ((HB.out.drew).setCell (p := ⟨w1.heap.size, k, none⟩) (Nat.le_refl _) (.int .u8 (v : Int)))
      have hcell2 : wr.drew.cell? ⟨w1.heap.size, k, none⟩ = some (.int .u8 ((d.getD k 0).toNat : Int)) := hcell
      have hfr2 : wr.drew.frozen? ⟨w1.heap.size, k, none⟩ = false := hfr
      clear hcell hfr HF HB HO HU
      generalize wr.drew = w3 at *
      go_wp2
      go_roundw
      case rel => exact ⟨k + 1, d.set k (UInt8.ofNat v), by omega, by go_num, (List.length_set ..).trans HL.out, HF2.out, HD2.out, HB2.out⟩
      case measure => simp [intOf]; omega
    · obtain rfl : k = n := by omega
      have hn0 : (k : Int) ≤ (c0 : Int) := by omega
      have hn1 : (k : Int) ≤ (c1 : Int) := by omega
      have hn2 : (k : Int) ≤ (c2 : Int) := by omega
      have hn3 : (0 : Int) ≤ (k : Int) := by omega
      obtain ⟨ad, cd, had, hsd, _⟩ := Sl.of_owns HO.out
      injection had with had1 had2 had3
      subst had1 had3
      have SD := Lib.hid hsd
      clear hsd had2
      have T0 := Lib.hid (S0.out.below HB.out (by intro A hA hl; subst hA; exact S0.out.lt hl))
      have T1 := Lib.hid (S1.out.below HB.out (by intro A hA hl; subst hA; exact S1.out.lt hl))
      have T2 := Lib.hid (S2.out.below HB.out (by intro A hA hl; subst hA; exact S2.out.lt hl))
      have LIN := Lib.hid (sum_line x y z d (LY.out.trans LX.out.symm) (LZ.out.trans LX.out.symm) (HL.out.trans LX.out.symm) (fun i hi => HD.out i (by rw [← LX.out]; exact hi)))
      have C0 := Lib.hid (fun m => of_calls a0 c0 x (wr.drewN m) (by rw [LX.out]; omega) (T0.out.drewN m).row)
      have C1 := Lib.hid (fun m => of_calls a1 c1 y (wr.drewN m) (by rw [LY.out]; omega) (T1.out.drewN m).row)
      have C2 := Lib.hid (fun m => of_calls a2 c2 z (wr.drewN m) (by rw [LZ.out]; omega) (T2.out.drewN m).row)
      have C3 := Lib.hid (fun m => of_calls _ k d (wr.drewN m) (by rw [HL.out]; omega) (SD.out.drewN m).row)
      rw [LX.out] at C0
      rw [LY.out] at C1
      rw [LZ.out] at C2
      rw [HL.out] at C3
      have s0 := sumOn_lt 0 x
      have s1 := sumOn_lt 0 y
      have s2 := sumOn_lt 0 z
      generalize sumOn 0 x = sx at *
      generalize sumOn 0 y = sy at *
      generalize sumOn 0 z = sz at *
      generalize sumOn 0 d = sd at *
      have q1 := u32_xor_nat sx sy s0 s1
      have q2 := u32_xor_nat (sx ^^^ sy) sz (xor_lt32 s0 s1) s2
      rw [LIN.out] at q2
      clear s0 s1 s2
      go_wp2_with fail
      go_quiet ((first | (go_at_call 44; exact Calls.quiet_of_same ((C0.out _).mono fun _ _ h => ⟨h.1, h.2.symm⟩)) | (go_at_call 44; exact Calls.quiet_of_same ((C1.out _).mono fun _ _ h => ⟨h.1, h.2.symm⟩)) | (go_at_call 44; exact Calls.quiet_of_same ((C2.out _).mono fun _ _ h => ⟨h.1, h.2.symm⟩)) | (go_at_call 44; exact Calls.quiet_of_same ((C3.out _).mono fun _ _ h => ⟨h.1, h.2.symm⟩))))
      go_wp2
      go_ret
      have hb : Below w.heap.size w wr := B1.out.trans (HB.out.mono hz)
      exact ⟨rfl, ⟨hb.os, hb.tape, hb.output, hb.size, hb.block⟩⟩

end Go.Proofs.Ytheolfmalcckmaa
