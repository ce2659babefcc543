/-
  The walk of the law ByteParts.
-/
import Derived.Test.YtheolfmalcckmaaOpenOps
import Derived.Deep.QuietTactic
import Derived.BigQuiet
namespace Go.Proofs.Ytheolfmalcckmaa
open Go.RowKit Go.ChangeShapes Go.WideShapes Go.ChangeAt Go.Deep

/-- Values' bytes, one behind the other. -/
def catB (l : List OpV) : List UInt8 := l.flatMap opB

theorem catB_take (l : List OpV) (k : Nat) (h : k < l.length) : catB (l.take (k + 1)) = catB (l.take k) ++ opB (l.getD k opNone) := by
  rw [List.take_succ_eq_append_getElem h]
  unfold catB
  rw [List.flatMap_append]
  congr 1
  simp [List.getD, h]

theorem catB_le : ∀ (l : List OpV), (catB l).length ≤ 62 * l.length
  | [] => by simp [catB]
  | x :: l => by
    have h1 := catB_le l
    have h2 := opB_le x
    have e : (catB (x :: l)).length = (opB x).length + (catB l).length := by simp [catB]
    rw [e, List.length_cons]
    omega

/-- Another Out stays as it was. -/
theorem OutIs.other {w w' : World} {p q : Addr} {l l' : List UInt8} (hq : OutIs w q l) (hp : OutIs w p l') (ho : Only p w w') (hne : q ≠ p) : OutIs w' q l := by
  obtain ⟨ap, cp, hcp, _⟩ := hp
  obtain ⟨aq, cq, hcq, hs, hf⟩ := hq
  have hlt := World.block_lt_of_cell? _ _ hcq
  exact ⟨aq, cq, (ho.cell q hlt hne).trans hcq, hs.only ho hcp (by intro n h; cases h), (ho.frozen q hlt).trans hf⟩

theorem join_text (A C : List UInt8) : (A ++ C == ((⟨A.toArray⟩ : ByteArray) ++ (⟨C.toArray⟩ : ByteArray)).toList) = true := by
  rw [ByteArray.mk_append_mk, ByteArray.toList_mk]
  simp

/-- 'string(b)', at whatever slice of bytes. -/
theorem text_back {w : World} {ao : Option Addr} {c : Nat} {l : List UInt8} (h : Sl w ao c l) : (convert 25 9 (.slice ao l.length c)).run Try.prog w = .ok (.string ⟨l.toArray⟩) w := by
  rcases h with ⟨rfl, rfl, rfl⟩ | ⟨A, rfl, _, _, hc⟩
  · exact nil_text w
  · exact run_convert_bytes_back (P := Try.prog) w 25 9 5 A c l Try.underlying25 Try.underlying5 Try.underlying9 (fun j hj => by rw [hc j hj]; simp [List.getD, hj])

set_option maxHeartbeats 3000000 in
set_option maxRecDepth 100000 in
theorem byteParts_walk (a0 : Option Addr) (c0 : Nat) (l0 : List OpV) (w : World) (h0 : Ol w a0 c0 l0) (a1 : Option Addr) (c1 : Nat) (l1 : List OpV) (h1 : Ol w a1 c1 l1) :
    Calls Try.prog 10 #[.slice a0 l0.length c0, .slice a1 l1.length c1] w fun e w' => e = .returned (.bool true) ∧ Below w.heap.size w w' := by
  have hl0 := h0.len
  have hl1 := h1.len
  have H0 := Lib.hid h0
  have H1 := Lib.hid h1
  clear h0 h1
  go_enter Try.func10, Try.ntmps10
  go_wp2_with fail
  refine (begun_calls _).mono ?_
  rintro e w1 ⟨rfl, hb1⟩
  have B1 := Lib.hid hb1
  have hz := hb1.size
  clear hb1
  go_wp2_with fail
  have p1 := OutIs.new w1 27
  have p2 := OutIs.new (w1.alloc (.cells #[.slice none 0 0] 27)) 27
  have p3 := OutIs.new ((w1.alloc (.cells #[.slice none 0 0] 27)).alloc (.cells #[.slice none 0 0] 27)) 27
  have p1' := (p1.alloc (new_below _ (.cells #[.slice none 0 0] 27))).alloc (new_below _ (.cells #[.slice none 0 0] 27))
  have p2' := p2.alloc (new_below _ (.cells #[.slice none 0 0] 27))
  simp only [World.size_alloc] at p2' p3
  have P1 := Lib.hid p1'
  have P2 := Lib.hid p2'
  have P3 := Lib.hid p3
  have N3 := Lib.hid (((new_below w1 (.cells #[.slice none 0 0] 27)).trans ((new_below _ (.cells #[.slice none 0 0] 27)).mono (size_after _ _))).trans ((new_below _ (.cells #[.slice none 0 0] 27)).mono (Nat.le_trans (size_after _ _) (size_after _ _))))
  clear p1 p2 p3 p1' p2'
  generalize hq : w1.heap.size = q at *
  have HQ := Lib.hid hq
  clear hq
  go_loopw [9] (fun i wr => ∃ k : Nat, k ≤ l0.length ∧ k ≤ 15 ∧ i = .int .i64 k ∧ OutIs wr ⟨q, 0, none⟩ (catB (l0.take k)) ∧ OutIs wr ⟨q + 1, 0, none⟩ [] ∧ OutIs wr ⟨q + 1 + 1, 0, none⟩ (catB (l0.take k)) ∧ Below q w1 wr) (fun i _ => 15 - (intOf i).toNat)
  case atStart => exact ⟨0, by omega, by omega, rfl, P1.out, P2.out, P3.out, N3.out⟩
  case round =>
    obtain ⟨k, hk1, hk2, rfl, hp1, hp2, hp3, hbel⟩ := hrel
    have Q1 := Lib.hid hp1
    have Q2 := Lib.hid hp2
    have Q3 := Lib.hid hp3
    have HB := Lib.hid hbel
    clear hp1 hp2 hp3 hbel P1 P2 P3 N3
    by_cases hlt : k < l0.length ∧ k < 15
    · obtain ⟨hlt1, hlt2⟩ := hlt
      have r1 : (k : Int) < (l0.length : Int) := by omega
      have r2 : (k : Int) < 15 := by omega
      obtain ⟨b, off, ha, hb, hc⟩ := H0.out.at (by intro e; rw [e] at hlt1; simp at hlt1)
      subst ha
      have hbq : b < q := Nat.lt_of_lt_of_le hb hz
      have K := Lib.hid ((hc k hlt1).below B1.out hb)
      have HT := Lib.hid (catB_take l0 k hlt1)
      have hlen : (catB (l0.take k)).length ≤ 1000 := by have := catB_le (l0.take k); simp at this; omega
      clear hc
      generalize l0.getD k opNone = x at *
      have K1 := Lib.hid (K.out.below HB.out hbq)
      obtain ⟨hok, e0, e1, e2⟩ := K1.out
      go_wp2_with fail
      refine (puts_calls q 0 _ x wr hok Q1.out (by omega)).mono ?_
      rintro e w5 ⟨rfl, ho5, hn5⟩
      have S1 := Lib.hid ho5
      have S2 := Lib.hid (Q2.out.other Q1.out hn5.toOnly (by simp))
      have S3 := Lib.hid (Q3.out.other Q1.out hn5.toOnly (by simp))
      have hqs : q ≤ wr.heap.size := by have := HB.out.size; have := HQ.out; omega
      have B5 := Lib.hid (hn5.below (Nat.le_refl q) hqs HB.out)
      clear ho5 hn5 e0 e1 e2
      obtain ⟨_, e0, e1, e2⟩ := (K.out.below B5.out hbq)
      go_wp2_with fail
      refine (puts_calls (q + 1 + 1) 0 _ x w5 hok S3.out (by omega)).mono ?_
      rintro e w6 ⟨rfl, ho6, hn6⟩
      have T3 := Lib.hid ho6
      have T1 := Lib.hid (S1.out.other S3.out hn6.toOnly (by simp))
      have T2 := Lib.hid (S2.out.other S3.out hn6.toOnly (by simp))
      have hqs5 : q ≤ w5.heap.size := by have := B5.out.size; have := HQ.out; omega
      have B6 := Lib.hid (hn6.below (B := q) (by show q ≤ q + 1 + 1; omega) hqs5 B5.out)
      clear ho6 hn6 e0 e1 e2
      go_wp2_with fail
      go_roundw
      case rel => exact ⟨k + 1, by omega, by omega, by go_num, by rw [HT.out]; exact T1.out, T2.out, by rw [HT.out]; exact T3.out, B6.out⟩
      case measure => simp [intOf]; omega
    · obtain ⟨A, hA⟩ : ∃ A, A = catB (l0.take k) := ⟨_, rfl⟩
      have hAl : A.length ≤ 1000 := by rw [hA]; have := catB_le (l0.take k); simp at this; omega
      rw [← hA] at Q1 Q3
      obtain ⟨w7, rfl⟩ : ∃ w7 : World, w7 = wr := ⟨_, rfl⟩
      have hqs : q ≤ w7.heap.size := by have := HB.out.size; have := HQ.out; omega
      clear hA
      rcases (show (l0.length : Int) ≤ (k : Int) ∨ ((k : Int) < l0.length ∧ 15 ≤ (k : Int)) by omega) with r1 | ⟨r1, r2⟩
      all_goals
        go_wp2_with fail
        go_loopw [10] (fun i wr => ∃ j : Nat, j ≤ l1.length ∧ j ≤ 15 ∧ i = .int .i64 j ∧ OutIs wr ⟨q, 0, none⟩ A ∧ OutIs wr ⟨q + 1, 0, none⟩ (catB (l1.take j)) ∧ OutIs wr ⟨q + 1 + 1, 0, none⟩ (A ++ catB (l1.take j)) ∧ Below q w1 wr) (fun i _ => 15 - (intOf i).toNat)
        case atStart => exact ⟨0, by omega, by omega, rfl, Q1.out, Q2.out, by rw [List.take_zero]; simpa [catB] using Q3.out, HB.out⟩
        case round =>
          obtain ⟨j, hj1, hj2, rfl, hp1, hp2, hp3, hbel⟩ := hrel
          have U1 := Lib.hid hp1
          have U2 := Lib.hid hp2
          have U3 := Lib.hid hp3
          have UB := Lib.hid hbel
          clear hp1 hp2 hp3 hbel Q1 Q2 Q3 HB
          by_cases hlt2 : j < l1.length ∧ j < 15
          · obtain ⟨hlt1, hlt2⟩ := hlt2
            have r5 : (j : Int) < (l1.length : Int) := by omega
            have r6 : (j : Int) < 15 := by omega
            obtain ⟨b, off, ha, hb, hc⟩ := H1.out.at (by intro e; rw [e] at hlt1; simp at hlt1)
            subst ha
            have hbq : b < q := by have := HQ.out; omega
            have K := Lib.hid ((hc j hlt1).below B1.out hb)
            have HT := Lib.hid (catB_take l1 j hlt1)
            have hlen : (catB (l1.take j)).length ≤ 1000 := by have := catB_le (l1.take j); simp at this; omega
            clear hc
            generalize l1.getD j opNone = x at *
            have K1 := Lib.hid (K.out.below UB.out hbq)
            obtain ⟨hok, e0, e1, e2⟩ := K1.out
            go_wp2_with fail
            refine (puts_calls (q + 1) 0 _ x wr hok U2.out (by omega)).mono ?_
            rintro e w8 ⟨rfl, ho8, hn8⟩
            have V2 := Lib.hid ho8
            have V1 := Lib.hid (U1.out.other U2.out hn8.toOnly (by simp))
            have V3 := Lib.hid (U3.out.other U2.out hn8.toOnly (by simp))
            have hqr : q ≤ wr.heap.size := by have := UB.out.size; have := HQ.out; omega
            have B8 := Lib.hid (hn8.below (B := q) (by show q ≤ q + 1; omega) hqr UB.out)
            clear ho8 hn8 e0 e1 e2
            obtain ⟨_, e0, e1, e2⟩ := (K.out.below B8.out hbq)
            go_wp2_with fail
            refine (puts_calls (q + 1 + 1) 0 _ x w8 hok V3.out (by rw [List.length_append]; omega)).mono ?_
            rintro e w9 ⟨rfl, ho9, hn9⟩
            have X3 := Lib.hid ho9
            have X1 := Lib.hid (V1.out.other V3.out hn9.toOnly (by simp))
            have X2 := Lib.hid (V2.out.other V3.out hn9.toOnly (by simp))
            have hq8 : q ≤ w8.heap.size := by have := B8.out.size; have := HQ.out; omega
            have B9 := Lib.hid (hn9.below (B := q) (by show q ≤ q + 1 + 1; omega) hq8 B8.out)
            clear ho9 hn9 e0 e1 e2
            go_wp2_with fail
            go_roundw
            case rel => exact ⟨j + 1, by omega, by omega, by go_num, X1.out, by rw [HT.out]; exact X2.out, by rw [HT.out, ← List.append_assoc]; exact X3.out, B9.out⟩
            case measure => simp [intOf]; omega
          · obtain ⟨C, hC⟩ : ∃ C, C = catB (l1.take j) := ⟨_, rfl⟩
            have hCl : C.length ≤ 1000 := by rw [hC]; have := catB_le (l1.take j); simp at this; omega
            rw [← hC] at U2 U3
            obtain ⟨w9, rfl⟩ : ∃ w9 : World, w9 = wr := ⟨_, rfl⟩
            clear hC
            obtain ⟨x1, c1', hp1, hs1, _⟩ := U1.out
            obtain ⟨x2, c2', hp2, hs2, _⟩ := U2.out
            obtain ⟨x3, c3', hp3, hs3, _⟩ := U3.out
            have t1 := fun nq : Nat => text_back (w := w9.drewN nq) hs1
            have t2 := fun nq : Nat => text_back (w := w9.drewN nq) hs2
            have t3 := fun nq : Nat => text_back (w := w9.drewN nq) hs3
            simp only [List.length_append] at hp3 t3
            have hend := Lib.hid (B1.out.trans (UB.out.mono (by have := HQ.out; omega)))
            clear hs1 hs2 hs3 U1 U2 U3
            rcases (show (l1.length : Int) ≤ (j : Int) ∨ ((j : Int) < l1.length ∧ 15 ≤ (j : Int)) by omega) with r7 | ⟨r7, r8⟩
            all_goals
              go_wp2_with fail
              go_quiet (fail)
              go_wp2
              go_ret
              refine ⟨ret_bool ?_, ⟨hend.out.os, hend.out.tape, hend.out.output, hend.out.size, hend.out.block⟩⟩
              exact join_text A C

end Go.Proofs.Ytheolfmalcckmaa
