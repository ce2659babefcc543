/-
  The walk of the law ByteAll.
-/
import Derived.Test.YtheolfmalcckmaaBytePartsWalk
namespace Go.Proofs.Ytheolfmalcckmaa
open Go.RowKit Go.ChangeShapes Go.WideShapes Go.ChangeAt Go.Deep

theorem Own.below {B : Nat} {w w' : World} {v : Value} {l : List UInt8} (h : Own B w v l) (hb : Below w.heap.size w w') : Own B w' v l := by
  refine ⟨h.1, ?_⟩
  rcases h.2 with h2 | ⟨g, cap, cur, hv, hg, hh, r⟩
  · exact .inl h2
  · exact .inr ⟨g, cap, cur, hv, hg, by rw [hb.block g (Array.getElem?_eq_some_iff.1 hh).1]; exact hh, r⟩

theorem Own.only {B : Nat} {p : Addr} {w w' : World} {v : Value} {l : List UInt8} (h : Own B w v l) (hb : Only p w w') (hp : p.block < B) : Own B w' v l := by
  refine ⟨h.1, ?_⟩
  rcases h.2 with h2 | ⟨g, cap, cur, hv, hg, hh, r⟩
  · exact .inl h2
  · exact .inr ⟨g, cap, cur, hv, hg, by rw [hb.block g (Array.getElem?_eq_some_iff.1 hh).1 (by omega)]; exact hh, r⟩

theorem OutIs.grown {w w' : World} {p : Addr} {l : List UInt8} {row : Option Nat} (h : OutIs w p l) (hg : w.grownBy w' row) (hp : some p.block ≠ row)
    (hA : ∀ ao n c A, w.cell? p = some (.slice ao n c) → ao = some A → some A.block ≠ row) : OutIs w' p l := by
  obtain ⟨ao, c, h1, h2, h3⟩ := h
  have hlt := World.block_lt_of_cell? _ _ h1
  refine ⟨ao, c, hg.cell h1 hp, h2.mono fun A v hA1 i hc => hg.cell hc (by rw [add_block]; exact hA ao _ c A h1 hA1), ?_⟩
  rw [World.frozen?_of_block (hg.block p.block hlt hp)]
  exact h3

theorem catB_drop (l : List OpV) (j : Nat) (h : j < l.length) : catB (l.drop j) = opB (l.getD j opNone) ++ catB (l.drop (j + 1)) := by
  rw [List.drop_eq_getElem_cons h]
  unfold catB
  rw [List.flatMap_cons]
  congr 1
  simp [List.getD, h]

theorem getD_take (l : List OpV) (j k : Nat) (h : j < k) : (l.take k).getD j opNone = l.getD j opNone := by
  simp [List.getD, h]

theorem opB_0 (n : Int) (s : ByteArray) : opB ⟨0, n, s⟩ = smallB n := rfl
theorem opB_1 (n : Int) (s : ByteArray) : opB ⟨1, n, s⟩ = longB n := rfl
theorem opB_2 (n : Int) (s : ByteArray) : opB ⟨2, n, s⟩ = shortB (cutB s) := rfl
theorem opB_3 (kd n : Int) (s : ByteArray) (k0 : kd ≠ 0) (k1 : kd ≠ 1) (k2 : kd ≠ 2) : opB ⟨kd, n, s⟩ = [if (n % 2 == 1) = true then 1 else 0] := by
  rw [opB_eq, if_neg k0, if_neg k1, if_neg k2, odd_is]
  by_cases h : n % 2 = 1 <;> simp [h]

/-- What one round has done, put together. -/
theorem round_done {q : Nat} {wr w5 w6 w7 : World} {o : Obj} {v : Value} {L M : List UInt8}
    (h5 : OutIs w5 ⟨q, 0, none⟩ (L ++ M)) (hon : OnlyN ⟨q, 0, none⟩ (wr.alloc o) w5) (hbel : Below w5.heap.size w5 w6) (hown : Own (q + 1) wr v L) (hg : w6.grownBy w7 v.ownBlock) : OutIs w7 ⟨q, 0, none⟩ (L ++ M) := by
  have h6 := h5.alloc hbel
  have hlt := hown.lt
  refine h6.grown hg ?_ ?_
  · intro e
    have := (hlt q e.symm).1
    omega
  · intro ao n c A h1 h2 e
    have hc5 : w5.cell? ⟨q, 0, none⟩ = some (.slice ao n c) := by rw [← h1]; exact (hbel.cell (p := ⟨q, 0, none⟩) h5.lt).symm
    have h3 := hon.fresh ao n c A hc5 h2
    have h4 := (hlt A.block e.symm).2
    have := (new_below wr o).size
    omega

set_option maxHeartbeats 6000000 in
set_option maxRecDepth 100000 in
theorem byteAll_walk (a0 : Option Addr) (c0 : Nat) (l0 : List OpV) (w : World) (h0 : Ol w a0 c0 l0) :
    Calls Try.prog 3 #[.slice a0 l0.length c0] w fun e w' => e = .returned (.bool true) ∧ Below w.heap.size w w' := by
  have hl0 := h0.len
  have H0 := Lib.hid h0
  clear h0
  go_enter Try.func3, Try.ntmps3
  go_wp2_with fail
  refine (begun_calls _).mono ?_
  rintro e w1 ⟨rfl, hb1⟩
  have B1 := Lib.hid hb1
  have hz := hb1.size
  clear hb1
  go_wp2_with fail
  have P1 := Lib.hid (OutIs.new w1 27)
  have N1 := Lib.hid (new_below w1 (.cells #[.slice none 0 0] 27))
  have S1 : Hid ((w1.alloc (.cells #[.slice none 0 0] 27)).heap.size = w1.heap.size + 1) := Lib.hid (by simp)
  generalize hq : w1.heap.size = q at *
  have HQ := Lib.hid hq
  clear hq
  go_loopw [5, 6] (fun v i wr => ∃ k : Nat, k ≤ l0.length ∧ k ≤ 30 ∧ i = .int .i64 k ∧ OutIs wr ⟨q, 0, none⟩ (catB (l0.take k)) ∧ Own (q + 1) wr v (catB (l0.take k)) ∧ Below q w1 wr ∧ q + 1 ≤ wr.heap.size) (fun _ i _ => 30 - (intOf i).toNat)
  case atStart => exact ⟨0, by omega, by omega, rfl, P1.out, World.ownsRow_nil _ _ _ _, N1.out, by rw [S1.out]; exact Nat.le_refl _⟩
  case round =>
    obtain ⟨k, hk1, hk2, rfl, hp1, hown, hbel, hsz⟩ := hrel
    have Q1 := Lib.hid hp1
    have HO := Lib.hid hown
    have HB := Lib.hid hbel
    clear hp1 hown hbel P1 N1 S1
    by_cases hlt : k < l0.length ∧ k < 30
    · obtain ⟨hlt1, hlt2⟩ := hlt
      have r1 : (k : Int) < (l0.length : Int) := by omega
      have r2 : (k : Int) < 30 := by omega
      obtain ⟨b, off, ha, hb, hc⟩ := H0.out.at (by intro e; rw [e] at hlt1; simp at hlt1)
      subst ha
      have hbq : b < q := by have := HQ.out; omega
      have K := Lib.hid ((hc k hlt1).below B1.out hb)
      have HT := Lib.hid (catB_take l0 k hlt1)
      have hlen : (catB (l0.take k)).length ≤ 2000 := by have := catB_le (l0.take k); simp at this; omega
      have hlen2 := opB_le (l0.getD k opNone)
      clear hc
      generalize l0.getD k opNone = x at *
      obtain ⟨L, hL⟩ : ∃ L, L = catB (l0.take k) := ⟨_, rfl⟩
      rw [← hL] at Q1 HO HT hlen
      have HL := Lib.hid hL
      clear hL
      obtain ⟨hok, e0, e1, e2⟩ := K.out.below HB.out hbq
      have HBytes := Lib.hid (fun wx : World => bytes_calls x wx hok)
      obtain ⟨kd, n, s⟩ := x
      have hs := hok.2.2
      simp only at e0 e1 e2 hs
      unfold OpV.val at HBytes
      simp only at HBytes
      have OB := Lib.hid (fun o => Q1.out.alloc (new_below wr o))
      by_cases k0 : kd = 0
      · subst k0
        go_wp2_with fail
        refine (small_out q 0 L n _ (OB.out _) (by omega)).mono ?_
        rintro e w5 ⟨rfl, ho5, hon⟩
        rw [← opB_0 n s] at ho5
        have S5 := Lib.hid ho5
        clear ho5
        have k0 := (hon.cell ⟨wr.heap.size, 0, none⟩ (by simp) (fun e => by have h : wr.heap.size = q := congrArg Addr.block e; omega)).trans (show (wr.alloc (.cells #[.int .i64 0, .int .i64 n, .string s] 29)).cell? ⟨wr.heap.size, 0, none⟩ = some (.int .i64 0) by rw [World.cell?_alloc_at (hn := rfl)]; rfl)
        have k1 := (hon.cell ⟨wr.heap.size, 1, none⟩ (by simp) (fun e => by have h : wr.heap.size = q := congrArg Addr.block e; omega)).trans (show (wr.alloc (.cells #[.int .i64 0, .int .i64 n, .string s] 29)).cell? ⟨wr.heap.size, 1, none⟩ = some (.int .i64 n) by rw [World.cell?_alloc_at (hn := rfl)]; rfl)
        have k2 := (hon.cell ⟨wr.heap.size, 2, none⟩ (by simp) (fun e => by have h : wr.heap.size = q := congrArg Addr.block e; omega)).trans (show (wr.alloc (.cells #[.int .i64 0, .int .i64 n, .string s] 29)).cell? ⟨wr.heap.size, 2, none⟩ = some (.string s) by rw [World.cell?_alloc_at (hn := rfl)]; rfl)
        have HOn := Lib.hid hon
        have B5 := Lib.hid (hon.below (B := q) (Nat.le_refl q) (by simp; omega) (HB.out.trans ((new_below wr (.cells #[.int .i64 0, .int .i64 n, .string s] 29)).mono (by omega))))
        have O5 := Lib.hid (((HO.out.below (new_below wr (.cells #[.int .i64 0, .int .i64 n, .string s] 29))).only hon.toOnly (by show q < q + 1; omega)))
        have hs5 : wr.heap.size + 1 ≤ w5.heap.size := by have := hon.size; simp at this; exact this
        clear hon e0 e1 e2 OB
        go_wp2_with fail
        refine (HBytes.out _).mono ?_
        rintro e w6 ⟨v6, rfl, hown6, hbel6⟩
        obtain ⟨a6, c6, hv6, hs6, _⟩ := Sl.of_owns hown6
        subst hv6
        have S6 := Lib.hid hs6
        have O6 := Lib.hid (O5.out.below hbel6)
        have B6 := Lib.hid (B5.out.trans (hbel6.mono (by omega)))
        have HBel6 := Lib.hid hbel6
        have hs6' := hbel6.size
        clear hown6 hbel6 hs6 k0 k1 k2
        generalize opB ⟨0, n, s⟩ = M at *
        go_wp2_with (at_builtin; refine append_bytes rfl (.tmp 56) (.tmp 58) rfl (q + 1) _ L rfl O6.out a6 c6 M rfl S6.out (by omega) (by omega) ?_)
        intro v7 w7 hown7 hg7 _
        have O7 : Hid (Own (q + 1) w7 v7 (L ++ M)) := Lib.hid (by unfold Own; rw [List.length_append]; exact hown7)
        have B7 := Lib.hid (B6.out.grown hg7 (by omega) (fun j hj => by have := (O6.out.lt j hj).1; omega))
        have Q7 := Lib.hid (round_done S5.out HOn.out HBel6.out HO.out hg7)
        have hs7 := hg7.size
        clear hown7 hg7
        go_wp2
        go_roundw
        case rel => exact ⟨k + 1, by omega, by omega, by go_num, by rw [HT.out]; exact Q7.out, by rw [HT.out]; exact O7.out, B7.out, by omega⟩
        case measure => simp [intOf]; omega
      · have f0 : (kd == 0) = false := beq_eq_false_iff_ne.2 k0
        by_cases k1 : kd = 1
        · subst k1
          go_wp2_with fail
          refine (long_out q 0 L n _ (OB.out _) (by omega)).mono ?_
          rintro e w5 ⟨rfl, ho5, hon⟩
          rw [← opB_1 n s] at ho5
          have S5 := Lib.hid ho5
          clear ho5
          have k0 := (hon.cell ⟨wr.heap.size, 0, none⟩ (by simp) (fun e => by have h : wr.heap.size = q := congrArg Addr.block e; omega)).trans (show (wr.alloc (.cells #[.int .i64 1, .int .i64 n, .string s] 29)).cell? ⟨wr.heap.size, 0, none⟩ = some (.int .i64 1) by rw [World.cell?_alloc_at (hn := rfl)]; rfl)
          have k1 := (hon.cell ⟨wr.heap.size, 1, none⟩ (by simp) (fun e => by have h : wr.heap.size = q := congrArg Addr.block e; omega)).trans (show (wr.alloc (.cells #[.int .i64 1, .int .i64 n, .string s] 29)).cell? ⟨wr.heap.size, 1, none⟩ = some (.int .i64 n) by rw [World.cell?_alloc_at (hn := rfl)]; rfl)
          have k2 := (hon.cell ⟨wr.heap.size, 2, none⟩ (by simp) (fun e => by have h : wr.heap.size = q := congrArg Addr.block e; omega)).trans (show (wr.alloc (.cells #[.int .i64 1, .int .i64 n, .string s] 29)).cell? ⟨wr.heap.size, 2, none⟩ = some (.string s) by rw [World.cell?_alloc_at (hn := rfl)]; rfl)
          have HOn := Lib.hid hon
          have B5 := Lib.hid (hon.below (B := q) (Nat.le_refl q) (by simp; omega) (HB.out.trans ((new_below wr (.cells #[.int .i64 1, .int .i64 n, .string s] 29)).mono (by omega))))
          have O5 := Lib.hid (((HO.out.below (new_below wr (.cells #[.int .i64 1, .int .i64 n, .string s] 29))).only hon.toOnly (by show q < q + 1; omega)))
          have hs5 : wr.heap.size + 1 ≤ w5.heap.size := by have := hon.size; simp at this; exact this
          clear hon e0 e1 e2 OB
          go_wp2_with fail
          refine (HBytes.out _).mono ?_
          rintro e w6 ⟨v6, rfl, hown6, hbel6⟩
          obtain ⟨a6, c6, hv6, hs6, _⟩ := Sl.of_owns hown6
          subst hv6
          have S6 := Lib.hid hs6
          have O6 := Lib.hid (O5.out.below hbel6)
          have B6 := Lib.hid (B5.out.trans (hbel6.mono (by omega)))
          have HBel6 := Lib.hid hbel6
          have hs6' := hbel6.size
          clear hown6 hbel6 hs6 k0 k1 k2
          generalize opB ⟨1, n, s⟩ = M at *
          go_wp2_with (at_builtin; refine append_bytes rfl (.tmp 56) (.tmp 58) rfl (q + 1) _ L rfl O6.out a6 c6 M rfl S6.out (by omega) (by omega) ?_)
          intro v7 w7 hown7 hg7 _
          have O7 : Hid (Own (q + 1) w7 v7 (L ++ M)) := Lib.hid (by unfold Own; rw [List.length_append]; exact hown7)
          have B7 := Lib.hid (B6.out.grown hg7 (by omega) (fun j hj => by have := (O6.out.lt j hj).1; omega))
          have Q7 := Lib.hid (round_done S5.out HOn.out HBel6.out HO.out hg7)
          have hs7 := hg7.size
          clear hown7 hg7
          go_wp2
          go_roundw
          case rel => exact ⟨k + 1, by omega, by omega, by go_num, by rw [HT.out]; exact Q7.out, by rw [HT.out]; exact O7.out, B7.out, by omega⟩
          case measure => simp [intOf]; omega
        · have f1 : (kd == 1) = false := beq_eq_false_iff_ne.2 k1
          by_cases k2 : kd = 2
          · subst k2
            go_wp2_with fail
            refine (cut_calls s 60 _ hs (by omega)).mono ?_
            rintro e w5 ⟨⟨y, rfl, hyl, hyd⟩, rfl⟩
            have HX := Lib.hid ((textB_short y hyl).trans (by rw [hyd]; rfl : shortB y.data.toList = shortB (cutB s)))
            clear hyd
            go_wp2_with fail
            refine (text_out q 0 L y _ (OB.out _) (by unfold maxLen; omega) (by omega)).mono ?_
            rintro e w5 ⟨rfl, ho5, hon⟩
            rw [HX.out, ← opB_2 n s] at ho5
            have S5 := Lib.hid ho5
            clear ho5
            have k0 := (hon.cell ⟨wr.heap.size, 0, none⟩ (by simp) (fun e => by have h : wr.heap.size = q := congrArg Addr.block e; omega)).trans (show (wr.alloc (.cells #[.int .i64 2, .int .i64 n, .string s] 29)).cell? ⟨wr.heap.size, 0, none⟩ = some (.int .i64 2) by rw [World.cell?_alloc_at (hn := rfl)]; rfl)
            have k1 := (hon.cell ⟨wr.heap.size, 1, none⟩ (by simp) (fun e => by have h : wr.heap.size = q := congrArg Addr.block e; omega)).trans (show (wr.alloc (.cells #[.int .i64 2, .int .i64 n, .string s] 29)).cell? ⟨wr.heap.size, 1, none⟩ = some (.int .i64 n) by rw [World.cell?_alloc_at (hn := rfl)]; rfl)
            have k2 := (hon.cell ⟨wr.heap.size, 2, none⟩ (by simp) (fun e => by have h : wr.heap.size = q := congrArg Addr.block e; omega)).trans (show (wr.alloc (.cells #[.int .i64 2, .int .i64 n, .string s] 29)).cell? ⟨wr.heap.size, 2, none⟩ = some (.string s) by rw [World.cell?_alloc_at (hn := rfl)]; rfl)
            have HOn := Lib.hid hon
            have B5 := Lib.hid (hon.below (B := q) (Nat.le_refl q) (by simp; omega) (HB.out.trans ((new_below wr (.cells #[.int .i64 2, .int .i64 n, .string s] 29)).mono (by omega))))
            have O5 := Lib.hid (((HO.out.below (new_below wr (.cells #[.int .i64 2, .int .i64 n, .string s] 29))).only hon.toOnly (by show q < q + 1; omega)))
            have hs5 : wr.heap.size + 1 ≤ w5.heap.size := by have := hon.size; simp at this; exact this
            clear hon e0 e1 e2 OB
            go_wp2_with fail
            refine (HBytes.out _).mono ?_
            rintro e w6 ⟨v6, rfl, hown6, hbel6⟩
            obtain ⟨a6, c6, hv6, hs6, _⟩ := Sl.of_owns hown6
            subst hv6
            have S6 := Lib.hid hs6
            have O6 := Lib.hid (O5.out.below hbel6)
            have B6 := Lib.hid (B5.out.trans (hbel6.mono (by omega)))
            have HBel6 := Lib.hid hbel6
            have hs6' := hbel6.size
            clear hown6 hbel6 hs6 k0 k1 k2
            generalize opB ⟨2, n, s⟩ = M at *
            go_wp2_with (at_builtin; refine append_bytes rfl (.tmp 56) (.tmp 58) rfl (q + 1) _ L rfl O6.out a6 c6 M rfl S6.out (by omega) (by omega) ?_)
            intro v7 w7 hown7 hg7 _
            have O7 : Hid (Own (q + 1) w7 v7 (L ++ M)) := Lib.hid (by unfold Own; rw [List.length_append]; exact hown7)
            have B7 := Lib.hid (B6.out.grown hg7 (by omega) (fun j hj => by have := (O6.out.lt j hj).1; omega))
            have Q7 := Lib.hid (round_done S5.out HOn.out HBel6.out HO.out hg7)
            have hs7 := hg7.size
            clear hown7 hg7
            go_wp2
            go_roundw
            case rel => exact ⟨k + 1, by omega, by omega, by go_num, by rw [HT.out]; exact Q7.out, by rw [HT.out]; exact O7.out, B7.out, by omega⟩
            case measure => simp [intOf]; omega
          · have f2 : (kd == 2) = false := beq_eq_false_iff_ne.2 k2
            have m1 := i64_and1 n
            have HM := Lib.hid (opB_3 kd n s k0 k1 k2)
            clear k0 k1 k2
            go_wp2_with fail
            refine (truth_out q 0 L (n % 2 == 1) _ (OB.out _) (by omega)).mono ?_
            rintro e w5 ⟨rfl, ho5, hon⟩
            rw [← HM.out] at ho5
            have S5 := Lib.hid ho5
            clear ho5
            have k0 := (hon.cell ⟨wr.heap.size, 0, none⟩ (by simp) (fun e => by have h : wr.heap.size = q := congrArg Addr.block e; omega)).trans (show (wr.alloc (.cells #[.int .i64 kd, .int .i64 n, .string s] 29)).cell? ⟨wr.heap.size, 0, none⟩ = some (.int .i64 kd) by rw [World.cell?_alloc_at (hn := rfl)]; rfl)
            have k1 := (hon.cell ⟨wr.heap.size, 1, none⟩ (by simp) (fun e => by have h : wr.heap.size = q := congrArg Addr.block e; omega)).trans (show (wr.alloc (.cells #[.int .i64 kd, .int .i64 n, .string s] 29)).cell? ⟨wr.heap.size, 1, none⟩ = some (.int .i64 n) by rw [World.cell?_alloc_at (hn := rfl)]; rfl)
            have k2 := (hon.cell ⟨wr.heap.size, 2, none⟩ (by simp) (fun e => by have h : wr.heap.size = q := congrArg Addr.block e; omega)).trans (show (wr.alloc (.cells #[.int .i64 kd, .int .i64 n, .string s] 29)).cell? ⟨wr.heap.size, 2, none⟩ = some (.string s) by rw [World.cell?_alloc_at (hn := rfl)]; rfl)
            have HOn := Lib.hid hon
            have B5 := Lib.hid (hon.below (B := q) (Nat.le_refl q) (by simp; omega) (HB.out.trans ((new_below wr (.cells #[.int .i64 kd, .int .i64 n, .string s] 29)).mono (by omega))))
            have O5 := Lib.hid (((HO.out.below (new_below wr (.cells #[.int .i64 kd, .int .i64 n, .string s] 29))).only hon.toOnly (by show q < q + 1; omega)))
            have hs5 : wr.heap.size + 1 ≤ w5.heap.size := by have := hon.size; simp at this; exact this
            clear hon e0 e1 e2 OB
            go_wp2_with fail
            refine (HBytes.out _).mono ?_
            rintro e w6 ⟨v6, rfl, hown6, hbel6⟩
            obtain ⟨a6, c6, hv6, hs6, _⟩ := Sl.of_owns hown6
            subst hv6
            have S6 := Lib.hid hs6
            have O6 := Lib.hid (O5.out.below hbel6)
            have B6 := Lib.hid (B5.out.trans (hbel6.mono (by omega)))
            have HBel6 := Lib.hid hbel6
            have hs6' := hbel6.size
            clear hown6 hbel6 hs6 k0 k1 k2
            generalize opB ⟨kd, n, s⟩ = M at *
            go_wp2_with (at_builtin; refine append_bytes rfl (.tmp 56) (.tmp 58) rfl (q + 1) _ L rfl O6.out a6 c6 M rfl S6.out (by omega) (by omega) ?_)
            intro v7 w7 hown7 hg7 _
            have O7 : Hid (Own (q + 1) w7 v7 (L ++ M)) := Lib.hid (by unfold Own; rw [List.length_append]; exact hown7)
            have B7 := Lib.hid (B6.out.grown hg7 (by omega) (fun j hj => by have := (O6.out.lt j hj).1; omega))
            have Q7 := Lib.hid (round_done S5.out HOn.out HBel6.out HO.out hg7)
            have hs7 := hg7.size
            clear hown7 hg7
            go_wp2
            go_roundw
            case rel => exact ⟨k + 1, by omega, by omega, by go_num, by rw [HT.out]; exact Q7.out, by rw [HT.out]; exact O7.out, B7.out, by omega⟩
            case measure => simp [intOf]; omega
    · obtain ⟨L, hL⟩ : ∃ L, L = catB (l0.take k) := ⟨_, rfl⟩
      have hlen : L.length ≤ 2000 := by rw [hL]; have := catB_le (l0.take k); simp at this; omega
      rw [← hL] at Q1 HO
      have HL := Lib.hid hL
      obtain ⟨w2, rfl⟩ : ∃ w2 : World, w2 = wr := ⟨_, rfl⟩
      clear hL
      obtain ⟨ax, cx, hpx, hsx, _⟩ := Q1.out
      obtain ⟨ay, cy, hvy, hsy, _⟩ := Sl.of_owns HO.out
      subst hvy
      have hltp := World.block_lt_of_cell? _ _ hpx
      have SX := Lib.hid hsx
      have t1 := fun nq : Nat => text_back (w := w2.drewN nq) hsx
      have t2 := fun nq : Nat => text_back (w := w2.drewN nq) hsy
      clear hsx hsy HO Q1
      rcases (show (l0.length : Int) ≤ (k : Int) ∨ ((k : Int) < l0.length ∧ 30 ≤ (k : Int)) by omega) with r1 | ⟨r1, r2⟩
      all_goals
        go_wp2_with fail
        go_quiet (fail)
        have SX2 : Hid (Sl (w2.drewN nq) ax cx L) := SX.out
        have HB2 : Hid (Below q w1 (w2.drewN nq)) := ⟨HB.out.os, HB.out.tape, HB.out.output, HB.out.size, HB.out.block⟩
        have hpx2 : (w2.drewN nq).cell? ⟨q, 0, none⟩ = some (.slice ax L.length cx) := hpx
        have hqi : q ≤ (w2.drewN nq).heap.size := by show q ≤ w2.heap.size; omega
        clear hpx t1 t2 hltp SX HB
        generalize w2.drewN nq = w4 at *
        go_wp2_with fail
        refine (read_calls ax cx L _ SX2.out).mono ?_
        rintro e w3 ⟨rfl, hi3, hb3⟩
        have I3 := Lib.hid hi3
        have B3 := Lib.hid (HB2.out.trans (hb3.mono hqi))
        clear hi3 hb3 hpx2 SX2 HB2
        generalize w4.heap.size = ib at *
        go_wp2_with fail
        have hcat : Hid (L = catB ((l0.take k).drop 0)) := Lib.hid (by rw [HL.out, List.drop_zero])
        have hkl : (l0.take k).length = k := by simp; omega
        go_loopw [9] (fun i wr => ∃ j : Nat, j ≤ k ∧ i = .int .i64 j ∧ InIs wr ib (catB ((l0.take k).drop j)) false ∧ Below q w1 wr) (fun i _ => 30 - (intOf i).toNat)
        case atStart => exact ⟨0, by omega, rfl, by rw [← hcat.out]; exact I3.out, B3.out⟩
        case round =>
          obtain ⟨j, hj, rfl, hi, hbel⟩ := hrel
          have IJ := Lib.hid hi
          have BJ := Lib.hid hbel
          clear hi hbel I3 B3
          by_cases hjk : j < k
          · have r5 : (j : Int) < (l0.length : Int) := by omega
            have r6 : (j : Int) < 30 := by omega
            have hjl : j < l0.length := by omega
            obtain ⟨b, off, ha, hb, hc⟩ := H0.out.at (by intro e; rw [e] at hjl; simp at hjl)
            subst ha
            have hbq : b < q := by have := HQ.out; omega
            have K := Lib.hid (((hc j hjl).below B1.out hb).below BJ.out hbq)
            have HD := Lib.hid (catB_drop (l0.take k) j (by rw [hkl]; exact hjk))
            rw [getD_take l0 j k hjk] at HD
            clear hc
            generalize l0.getD j opNone = x at *
            obtain ⟨hok, e0, e1, e2⟩ := K.out
            have C := Lib.hid (one_whole ib x _ wr hok (by rw [← HD.out]; exact IJ.out))
            go_wp2_with fail
            refine C.out.mono ?_
            rintro e w5 ⟨rfl, hi5, hg5⟩
            have I5 := Lib.hid hi5
            have B5 := Lib.hid (BJ.out.grown hg5 (by have := BJ.out.size; have := HQ.out; omega) (by intro m hm; cases hm; omega))
            clear hi5 hg5 C
            go_wp2_with fail
            go_roundw
            case rel => exact ⟨j + 1, by omega, by go_num, I5.out, B5.out⟩
            case measure => simp [intOf]; omega
          · obtain rfl : j = k := by omega
            have IE : Hid (InIs wr ib [] false) := Lib.hid (by have h := IJ.out; rw [List.drop_of_length_le (by omega)] at h; exact h)
            have hend := Lib.hid (B1.out.trans (BJ.out.mono (by have := HQ.out; omega)))
            clear IJ BJ
            go_wp2_with fail
            refine (end_calls ib [] false _ IE.out).mono ?_
            rintro e w' ⟨rfl, rfl⟩
            go_wp2_with fail
            refine (bad_calls ib [] false _ IE.out).mono ?_
            rintro e w' ⟨rfl, rfl⟩
            go_wp2_with fail
            refine (left_calls ib [] false _ IE.out).mono ?_
            rintro e w' ⟨rfl, rfl⟩
            go_wp2
            go_ret
            exact ⟨rfl, hend.out⟩

end Go.Proofs.Ytheolfmalcckmaa
