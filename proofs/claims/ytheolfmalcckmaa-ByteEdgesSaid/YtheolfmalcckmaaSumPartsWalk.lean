/-
  The walk of the law SumParts: a sum by many parts.
-/
import Derived.Test.YtheolfmalcckmaaOpen
import Derived.Test.YtheolfmalcckmaaShort
import Derived.Test.YtheolfmalcckmaaRefSum
import Derived.Lib.MinMax
namespace Go.Proofs.Ytheolfmalcckmaa
open Go.RowKit

theorem sumOn_nil (s : Nat) (h : s < 4294967296) : sumOn s [] = s := notN_notN h

theorem sum_step (l : List UInt8) (a n : Nat) : sumOn (sumOn 0 (l.take a)) ((l.drop a).take n) = sumOn 0 (l.take (a + n)) := by
  rw [← sumOn_append, ← List.take_add]

theorem sum_last (l : List UInt8) (a : Nat) : sumOn (sumOn 0 (l.take a)) (l.drop a) = sumOn 0 l := by
  rw [← sumOn_append, List.take_append_drop]

theorem zeros_u8s (n : Nat) : List.replicate n (Value.int .u8 0) = u8s (List.replicate n 0) := by
  unfold u8s
  rw [List.map_replicate]
  rfl

theorem owns_named {w : World} {B n : Nat} {v : Value} {l : List UInt8} (h : w.ownsRow B 5 1 v n (u8s l)) : ∃ ao c, v = .slice ao l.length c ∧ Sl w ao c l ∧ (∀ A, ao = some A → B ≤ A.block) := Sl.of_owns h

theorem Sl.cut {w : World} {g cap : Nat} {l : List UInt8} (h : Sl w (some ⟨g, 0, none⟩) cap l) {m n : Nat} (hm : m + n ≤ l.length) :
    ∃ A : Addr, (if cap = m then some (⟨g, 0, none⟩ : Addr) else some ⟨g, m, none⟩) = some A ∧ Hid (Sl w (some A) (cap - m) ((l.drop m).take n)) := by
  have hle := h.le
  rcases h with ⟨h, _⟩ | ⟨A, hA, h1, h2, hc⟩
  · cases h
  · cases hA
    have hlen : ((l.drop m).take n).length = n := by simp; omega
    by_cases hcm : cap = m
    · refine ⟨⟨g, 0, none⟩, by rw [if_pos hcm], .inr ⟨_, rfl, by omega, by omega, fun i hi => by omega⟩⟩
    · refine ⟨⟨g, m, none⟩, by rw [if_neg hcm], .inr ⟨_, rfl, by omega, by omega, fun i hi => ?_⟩⟩
      have := hc (m + i) (by omega)
      rw [Addr.add_lit, Nat.zero_add] at this
      rw [Addr.add_lit, this]
      have hi2 : i < n := by omega
      simp [List.getD, hi2]

theorem tmod30 (c : Int) : -29 ≤ c.tmod 30 ∧ c.tmod 30 ≤ 29 := by
  have h1 := Int.tmod_lt_of_pos c (b := 30) (by omega)
  have h2 := Int.lt_tmod_of_pos c (b := 30) (by omega)
  omega

set_option maxHeartbeats 3000000 in
set_option maxRecDepth 100000 in
theorem sumParts_nat (a0 : Option Addr) (c0 : Nat) (l0 : List UInt8) (w : World) (h0 : Sl w a0 c0 l0) (a1 : Option Addr) (c1 : Nat) (l1 : List Int) (h1 : Il w a1 c1 l1) (z : Nat) (hz : z ≤ 20) :
    Calls Try.prog 14 #[.slice a0 l0.length c0, .slice a1 l1.length c1, .int .i64 (z : Int)] w fun e w' => e = .returned (.bool true) ∧ Below w.heap.size w w' := by
  obtain ⟨i0, hi, hz0, hz1, hz2⟩ := info_parts Try.u8row
  have H0 := Lib.hid h0
  have H1 := Lib.hid h1
  have hl1 : (l1.length : Int) ≤ 9223372036854775807 := by
    rcases h1 with ⟨_, _, rfl⟩ | ⟨A, _, q1, q2, _⟩
    · simp
    · unfold maxLen at q2; omega
  have CN := Lib.hid (fun wx : World => of_calls none 0 [] wx (by simp) (.inl rfl))
  rw [sumOn_nil 0 (by omega), List.length_nil] at CN
  clear h0 h1
  go_enter Try.func14, Try.ntmps14
  go_wp2_with fail
  refine (begun_calls _).mono ?_
  rintro e w1 ⟨rfl, hb1⟩
  have B1 := Lib.hid hb1
  have hsz := hb1.size
  clear hb1
  go_wp2_with fail
  refine (short_named a0 c0 100 l0 _ (H0.out.belowAll B1.out) (by omega)).mono ?_
  rintro e w2 ⟨ax, cx, x, rfl, hx, hs2, hb2⟩
  have B2 := Lib.hid (B1.out.trans (hb2.mono hsz))
  have hx80 : x.length ≤ 100 := by rw [hx.out]; simp; omega
  have SX := Lib.hid hs2
  have hsz2 := B2.out.size
  clear hb2 hs2 hx B1 hsz
  go_wp2_with (at_make; refine wpList_make_full _ rfl _ _ 25 rfl w2.heap.size 5 i0 (.int .u8 0) 1 Try.underlying25 hi hz0 hz1 .i64 .i64 _ _ z rfl rfl rfl rfl (by rw [hz2]; omega) (by unfold maxLen; omega) (Nat.le_refl _) ?_)
  intro w3 hown3 hg3
  have N3 := Lib.hid ((Below.refl w2.heap.size w2).grown hg3 (Nat.le_refl _) (by intro k hk; cases hk))
  have O3 : Hid (w3.ownsRow w2.heap.size 5 1 (.slice (some ⟨w2.heap.size, 0, none⟩) z z) (List.replicate z (0 : UInt8)).length (u8s (List.replicate z 0))) := by
    rw [List.length_replicate, ← zeros_u8s, ← toList_madeCells_one (.int .u8 0) z]
    exact hown3
  have S3 := Lib.hid (SX.out.belowAll N3.out)
  clear hown3 hg3
  have hlz : (List.replicate z (0 : UInt8)).length = z := List.length_replicate
  have HLZ := Lib.hid hlz
  clear hlz
  obtain ⟨zs, hzs⟩ : ∃ zs, zs = List.replicate z (0 : UInt8) := ⟨_, rfl⟩
  rw [← hzs] at O3 HLZ
  have hzl := HLZ.out
  have O3b : Hid (w3.ownsRow w2.heap.size 5 1 (.slice (some ⟨w2.heap.size, 0, none⟩) z z) zs.length (u8s zs)) := O3
  clear hzs O3
  go_wp2_with (at_builtin; refine append_bytes rfl (.tmp 24) (.tmp 25) rfl w2.heap.size _ zs rfl O3b.out ax cx x rfl S3.out (by omega) N3.out.size ?_)
  intro v4 w4 hown4 hg4 hv4
  have N4 := Lib.hid (N3.out.grown hg4 N3.out.size (by intro k hk; simp [Value.ownBlock] at hk; omega))
  obtain ⟨L, hL⟩ : ∃ L, L = zs ++ x := ⟨_, rfl⟩
  have hLl : L.length = zs.length + x.length := by rw [hL, List.length_append]
  obtain ⟨g, cap, hv, hgB⟩ : ∃ g cap, v4 = .slice (some ⟨g, 0, none⟩) L.length cap ∧ w2.heap.size ≤ g := by
    rcases hown4.2 with ⟨he, _⟩ | ⟨g, cap, cur, h1, h2, _⟩
    · exact absurd he hv4
    · exact ⟨g, cap, by rw [h1, hLl, hzl], h2⟩
  subst hv
  have hs4 : Sl w4 (some ⟨g, 0, none⟩) cap L := by
    obtain ⟨a, c, h1, h2, _⟩ := owns_named (l := L) (by rw [hL]; exact hown4)
    injection h1 with e1 e2 e3
    subst e1 e3
    exact h2
  have S4 := Lib.hid hs4
  have B4 := Lib.hid (B2.out.trans (N4.out.mono hsz2))
  have hLb : L.length ≤ 200 := by omega
  clear hown4 hg4 hv4 hL hLl hs4 hzl HLZ O3b N3 S3 SX
  go_wp2_with fail
  refine (CN.out _).mono ?_
  rintro e w' ⟨rfl, rfl⟩
  go_wp2_with fail
  have hcap := S4.out.le
  unfold maxLen at hcap
  go_loop [8, 9, 10] (fun s a i => ∃ k at_ : Nat, k ≤ l1.length ∧ k ≤ 10 ∧ at_ ≤ L.length ∧ i = .int .i64 k ∧ a = .int .i64 at_ ∧ s = .int .u32 (sumOn 0 (L.take at_) : Nat)) (fun _ _ i => 10 - (intOf i).toNat)
  case atStart => exact ⟨0, 0, by omega, by omega, by omega, rfl, rfl, by rw [List.take_zero, sumOn_nil 0 (by omega)]; rfl⟩
  case round =>
    obtain ⟨k, m, hk1, hk2, hm, rfl, rfl, rfl⟩ := hrel
    by_cases hlt : k < l1.length ∧ k < 10
    · obtain ⟨hlt1, hlt2⟩ := hlt
      have r1 : (k : Int) < (l1.length : Int) := by omega
      have r2 : (k : Int) < 10 := by omega
      obtain ⟨b, off, ha, hb, hc⟩ := H1.out.at (by intro e; rw [e] at hlt1; simp at hlt1)
      subst ha
      have hcell := (B4.out.cell (p := ⟨b, off + k, none⟩) hb).trans (hc k hlt1)
      obtain ⟨t, ht, htb⟩ : ∃ t, (l1.getD k 0).tmod 30 = t ∧ -29 ≤ t ∧ t ≤ 29 := ⟨_, rfl, tmod30 _⟩
      generalize l1.getD k 0 = cv at *
      obtain ⟨q, hq, hqb⟩ : ∃ q : Nat, (t + 30) % 30 = (q : Int) ∧ q < 30 := ⟨((t + 30) % 30).toNat, by omega, by omega⟩
      obtain ⟨n, hn, hnb⟩ : ∃ n : Nat, min ((L.length : Int) - (m : Int)) (q : Int) = (n : Int) ∧ n ≤ q ∧ m + n ≤ L.length := ⟨min (L.length - m) q, by omega, by omega, by omega⟩
      have r3 : (m : Int) + (n : Int) ≤ (cap : Int) := by omega
      obtain ⟨A, hA, hSA⟩ : ∃ A : Addr, (if cap = m then some (⟨g, 0, none⟩ : Addr) else some ⟨g, m, none⟩) = some A ∧ Hid (Sl w4 (some A) (cap - m) ((L.drop m).take n)) := S4.out.cut (by omega)
      have hnl : ((L.drop m).take n).length = n := by simp; omega
      have CO := Lib.hid (on_calls (sumOn 0 (L.take m)) (some A) (cap - m) ((L.drop m).take n) w4 (sumOn_lt _ _) (by rw [hnl]; omega) hSA.out.row)
      rw [hnl, sum_step] at CO
      clear hc hnl hSA
      go_wp2_with fail
      refine CO.out.mono ?_
      rintro e w' ⟨rfl, rfl⟩
      clear CO
      go_wp2
      go_round
      case rel => exact ⟨k + 1, m + n, by omega, by omega, by omega, by go_num, by go_num, rfl⟩
      case measure => simp [intOf]; omega
    · obtain ⟨A, hA, hSA⟩ : ∃ A : Addr, (if cap = m then some (⟨g, 0, none⟩ : Addr) else some ⟨g, m, none⟩) = some A ∧ Hid (Sl w4 (some A) (cap - m) ((L.drop m).take (L.length - m))) := S4.out.cut (by omega)
      rw [List.take_of_length_le (by simp)] at hSA
      have hnl : (L.drop m).length = L.length - m := by simp
      have CO := Lib.hid (on_calls (sumOn 0 (L.take m)) (some A) (cap - m) (L.drop m) w4 (sumOn_lt _ _) (by rw [hnl]; omega) hSA.out.row)
      rw [hnl, sum_last] at CO
      have CR := Lib.hid (refSum_any (some ⟨g, 0, none⟩) cap L w4 (by omega) S4.out)
      have hsl := sumOn_lt 0 L
      generalize sumOn 0 L = sl at *
      have hmL : (m : Int) ≤ (L.length : Int) := by omega
      clear hSA hnl
      by_cases hk : k < l1.length
      · have r2 : (10 : Int) ≤ (k : Int) := by omega
        have r1 : (k : Int) < (l1.length : Int) := by omega
        go_wp2_with fail
        refine CO.out.mono ?_
        rintro e w' ⟨rfl, rfl⟩
        go_wp2_with fail
        refine CR.out.mono ?_
        rintro e w5 ⟨rfl, hb5⟩
        have B5 := Lib.hid (B4.out.trans (hb5.mono B4.out.size))
        clear hb5 CR CO
        go_wp2_with fail
        refine (CN.out _).mono ?_
        rintro e w' ⟨rfl, rfl⟩
        go_wp2
        go_ret
        exact ⟨rfl, B5.out⟩
      · have r1 : (l1.length : Int) ≤ (k : Int) := by omega
        go_wp2_with fail
        refine CO.out.mono ?_
        rintro e w' ⟨rfl, rfl⟩
        go_wp2_with fail
        refine CR.out.mono ?_
        rintro e w5 ⟨rfl, hb5⟩
        have B5 := Lib.hid (B4.out.trans (hb5.mono B4.out.size))
        clear hb5 CR CO
        go_wp2_with fail
        refine (CN.out _).mono ?_
        rintro e w' ⟨rfl, rfl⟩
        go_wp2
        go_ret
        exact ⟨rfl, B5.out⟩

set_option maxHeartbeats 1000000 in
theorem sumParts_out (a0 : Option Addr) (c0 : Nat) (l0 : List UInt8) (w : World) (h0 : Sl w a0 c0 l0) (a1 : Option Addr) (c1 : Nat) (l1 : List Int) (z : Int) (hz : z < 0 ∨ 20 < z) :
    Calls Try.prog 14 #[.slice a0 l0.length c0, .slice a1 l1.length c1, .int .i64 z] w fun e w' => e = .returned (.bool true) ∧ Below w.heap.size w w' := by
  have H0 := Lib.hid h0
  clear h0
  by_cases hneg : z < 0
  · clear hz
    go_enter Try.func14, Try.ntmps14
    go_wp2_with fail
    refine (begun_calls _).mono ?_
    rintro e w1 ⟨rfl, hb1⟩
    have B1 := Lib.hid hb1
    clear hb1
    go_wp2_with fail
    refine (short_named a0 c0 100 l0 _ (H0.out.belowAll B1.out) (by omega)).mono ?_
    rintro e w2 ⟨ax, cx, x, rfl, hx, hs2, hb2⟩
    have B2 := Lib.hid (B1.out.trans (hb2.mono B1.out.size))
    clear hx hs2 hb2
    go_wp2
    go_ret
    exact ⟨rfl, B2.out⟩
  · have hgt : 20 < z := by omega
    have hge : ¬ z < 0 := hneg
    clear hz hneg
    go_enter Try.func14, Try.ntmps14
    go_wp2_with fail
    refine (begun_calls _).mono ?_
    rintro e w1 ⟨rfl, hb1⟩
    have B1 := Lib.hid hb1
    clear hb1
    go_wp2_with fail
    refine (short_named a0 c0 100 l0 _ (H0.out.belowAll B1.out) (by omega)).mono ?_
    rintro e w2 ⟨ax, cx, x, rfl, hx, hs2, hb2⟩
    have B2 := Lib.hid (B1.out.trans (hb2.mono B1.out.size))
    clear hx hs2 hb2
    go_wp2
    go_ret
    exact ⟨rfl, B2.out⟩

theorem sumParts_walk (a0 : Option Addr) (c0 : Nat) (l0 : List UInt8) (w : World) (h0 : Sl w a0 c0 l0) (a1 : Option Addr) (c1 : Nat) (l1 : List Int) (h1 : Il w a1 c1 l1) (z : Int) (_hz : (Lit.int .i64 z).wf = true) :
    Calls Try.prog 14 #[.slice a0 l0.length c0, .slice a1 l1.length c1, .int .i64 z] w fun e w' => e = .returned (.bool true) ∧ Below w.heap.size w w' := by
  by_cases h : z < 0 ∨ 20 < z
  · exact sumParts_out a0 c0 l0 w h0 a1 c1 l1 z h
  · obtain ⟨m, rfl⟩ := Int.eq_ofNat_of_zero_le (show 0 ≤ z by omega)
    exact sumParts_nat a0 c0 l0 w h0 a1 c1 l1 h1 m (by omega)

end Go.Proofs.Ytheolfmalcckmaa
