/-
  The walk of the law HatchAll.
-/
import Derived.Test.YtijpfahiedggmaaHatchOrderWalk
namespace Go.Proofs.Ytijpfahiedggmaa
open Go.RowKit Go.Conc

theorem ints_cons {L : List Int} {v : Value} {rest : List Value} (h : v :: rest = ints L) : ∃ x L', L = x :: L' ∧ v = .int .i64 x ∧ rest = ints L' := by
  cases L with
  | nil => simp [ints] at h
  | cons x L' =>
    simp only [ints, List.map_cons, List.cons.injEq] at h
    exact ⟨x, L', rfl, h.1, h.2⟩

theorem mem_mid {F S : List (Nat × Value)} {a p : Nat × Value} (h : p ∈ F ++ S) : p ∈ F ++ a :: S := by
  rcases List.mem_append.1 h with h | h
  · exact List.mem_append_left _ h
  · exact List.mem_append_right _ (List.mem_cons_of_mem _ h)

set_option maxHeartbeats 8000000 in
set_option maxRecDepth 100000 in
theorem hatchAll_walk {w : World} (a0 : Int) (_w0 : (Lit.int .i64 a0).wf = true) (a1 : Option Addr) (cap1 : Nat) (l1 : List OpV) (w1 : Ol w a1 cap1 l1) :
    Calls Try.prog 3 #[.int .i64 a0, .slice a1 l1.length cap1] w fun e w' => e = .returned (.bool true) ∧ Below w.heap.size w w' := by
  clear _w0
  have hlen := w1.len
  have H0 := Lib.hid w1
  clear w1
  obtain ⟨r0, r1, r2⟩ := roomOf_is a0
  have HN := Lib.hid (fun w => newI a0 w)
  generalize roomOf a0 = m at *
  have hm : max 1 (min a0 64) = (m : Int) := r0.symm
  clear r0
  go_enter Try.func3, Try.ntmps3
  go_wp2_with fail
  refine (begun_calls _).mono ?_
  rintro e x1 ⟨rfl, hb1⟩
  go_wp2_with fail
  refine (HN.out x1).mono ?_
  rintro e x2 ⟨b, c1, c2, rfl, h2, t2, hc0, hc1, hc2⟩
  have hs1 := hb1.size
  have B2 : Hid (Below w.heap.size w x2) := Lib.hid (hb1.trans (t2.belowAll.mono hs1))
  have BD := Lib.hid (show w.heap.size ≤ b ∧ w.heap.size ≤ c1 ∧ w.heap.size ≤ c2 by omega)
  have H2 := Lib.hid h2
  clear h2 t2 hb1 hc0 hc1 hc2 hs1 HN
  obtain ⟨q, hq⟩ : ∃ q, q = w.heap.size := ⟨_, rfl⟩
  have HQ := Lib.hid hq
  rw [← hq] at B2 BD
  clear hq
  go_wp2_with fail
  go_loopw [8, 9, 10, 11] (fun v5 v6 lv i wr => ∃ (k lost : Nat) (F S : List (Nat × Value)) (fs ss : List Int), k ≤ l1.length ∧ k ≤ 200 ∧ i = .int .i64 k ∧ lv = .int .i64 lost ∧ lost ≤ k ∧ (HI wr b c1 c2 m F S lost ∧ F.map Prod.snd = ints fs ∧ S.map Prod.snd = ints ss) ∧ (Que wr q v5 fs ∧ Que wr q v6 ss ∧ fs.length + ss.length ≤ k) ∧ (∀ g, v5.ownBlock = some g → v6.ownBlock ≠ some g) ∧ (Off v5 (F ++ S) ∧ Off v6 (F ++ S)) ∧ Below q w wr) (fun _ _ _ i _ => 200 - (intOf i).toNat)
  case atStart => exact ⟨0, 0, [], [], [], [], by omega, by omega, rfl, rfl, by omega, ⟨H2.out, rfl, rfl⟩, ⟨Que.nil _ _, Que.nil _ _, by simp⟩, (by intro g hg; cases hg), ⟨(by intro g hg; cases hg), (by intro g hg; cases hg)⟩, B2.out⟩
  case round =>
    clear H2 B2
    obtain ⟨k, lost, F, S, fs, ss, hk, hk200, rfl, rfl, hlo, ⟨hh, hF, hS⟩, ⟨hr5, hr6, hsum⟩, hap, ⟨ho5, ho6⟩, hbl⟩ := hrel
    have H3 := Lib.hid hh
    have HF := Lib.hid hF
    have HSS := Lib.hid hS
    have R5 := Lib.hid hr5
    have R6 := Lib.hid hr6
    have AP := Lib.hid hap
    have O5 := Lib.hid ho5
    have O6 := Lib.hid ho6
    have B3 := Lib.hid hbl
    obtain ⟨ao5, cp5, rfl, -⟩ := hr5
    obtain ⟨ao6, cp6, rfl, -⟩ := hr6
    obtain ⟨n5, hn5⟩ : ∃ n, n = fs.length := ⟨_, rfl⟩
    obtain ⟨n6, hn6⟩ : ∃ n, n = ss.length := ⟨_, rfl⟩
    have HN5 := Lib.hid hn5
    have HN6 := Lib.hid hn6
    rw [← hn5] at hsum R5 AP O5 ⊢
    rw [← hn6] at hsum R6 AP O6 ⊢
    clear hh hF hS hap ho5 ho6 hbl hn5 hn6
    have hq3 : q ≤ wr.heap.size := by have := B3.out.size; rw [HQ.out]; exact this
    by_cases hlt : k < l1.length ∧ k < 200
    · obtain ⟨hl, h200⟩ := hlt
      obtain ⟨ob, off, ha0, hob, hop⟩ := H0.out.at (by intro e; rw [e] at hl; simp at hl)
      subst ha0
      obtain ⟨hxok, hc0, hc1⟩ := (hop k hl).below B3.out (by rw [HQ.out]; exact hob)
      clear hop
      generalize l1.getD k opNone = x at hxok hc0 hc1
      obtain ⟨kd, nn⟩ := x
      obtain ⟨hkd, hnn⟩ := hxok
      dsimp only at hkd hnn hc0 hc1
      have hd60 : decide ((k : Int) < 200) = true := by simp; omega
      have hf1 : F.length = n5 := by rw [HN5.out]; have := congrArg List.length HF.out; simpa [ints] using this
      have hs1 : S.length = n6 := by rw [HN6.out]; have := congrArg List.length HSS.out; simpa [ints] using this
      obtain ⟨oo, hoo⟩ : ∃ oo, oo = wr.heap.size := ⟨_, rfl⟩
      obtain ⟨wA, hwA⟩ : ∃ wA, wA = wr.alloc (.cells #[.int .i64 kd, .int .i64 nn] 28 (0, 0)) := ⟨_, rfl⟩
      have tA : Turn [] wr wA := by rw [hwA]; exact Turn.alloc [] wr _
      have hsA : wA.heap.size = oo + 1 := by rw [hwA, hoo]; simp
      have hblk : wA.heap[oo]? = some (.cells #[.int .i64 kd, .int .i64 nn] 28 (0, 0)) := by rw [hwA, hoo]; exact heap_alloc_new wr _
      have HA := Lib.hid (H3.out.nil tA)
      have RA5 := Lib.hid (R5.out.turn tA (by simp))
      have RA6 := Lib.hid (R6.out.turn tA (by simp))
      have BA := Lib.hid (B3.out.trans (tA.belowAll.mono hq3))
      have hqA : q ≤ wA.heap.size := by rw [hsA, hoo]; omega
      have hon : oo ≠ c1 ∧ oo ≠ c2 ∧ oo ≠ b := by have h1 := H3.out.lt; rw [hoo]; omega
      have hoN : wA.cell? ⟨oo, 1, none⟩ = some (.int .i64 nn) := by rw [cell_of_row wA oo 1 _ _ _ hblk]; rfl
      have N5 : Hid (∀ g, (Value.slice ao5 n5 cp5).ownBlock = some g → q ≤ g ∧ g < wA.heap.size ∧ b ≠ g ∧ c1 ≠ g ∧ c2 ≠ g) := Lib.hid (by
        intro g hg
        obtain ⟨hB, cur, hcur⟩ := RA5.out.blk hg
        exact ⟨hB, lt_of_heap hcur, HA.out.row_ne hcur⟩)
      have N6 : Hid (∀ g, (Value.slice ao6 n6 cp6).ownBlock = some g → q ≤ g ∧ g < wA.heap.size ∧ b ≠ g ∧ c1 ≠ g ∧ c2 ≠ g) := Lib.hid (by
        intro g hg
        obtain ⟨hB, cur, hcur⟩ := RA6.out.blk hg
        exact ⟨hB, lt_of_heap hcur, HA.out.row_ne hcur⟩)
      have HON := Lib.hid hon
      have HSA := Lib.hid hsA
      have HWA := Lib.hid hwA
      have HOO := Lib.hid hoo
      clear tA hblk H3 R5 R6 B3 hon hsA hwA hoo
      by_cases k0 : kd = 0
      · subst k0
        by_cases hr : n5 < m
        · have hd : decide ((n5 : Int) < (m : Int)) = true := by simp; omega
          go_wp2_with fail
          rw [← HWA.out]
          rw [← HOO.out]
          refine (fastI_room HA.out nn (by omega)).mono ?_
          rintro e x3 ⟨rfl, h4, t4⟩
          have ho3 : x3.cell? ⟨oo, 1, none⟩ = some (.int .i64 nn) := t4.cell hoN (by simpa using HON.out.1)
          have hsz := t4.size
          have tB : Turn [c1] wA (x3.alloc (.cells #[.int .i64 nn] 3 (0, 0))) := t4.trans (Turn.alloc [] x3 _) (by simp)
          have R5a := Lib.hid (RA5.out.turn tB (fun g hg => by simpa using (N5.out g hg).2.2.2.1.symm))
          have R6a := Lib.hid (RA6.out.turn tB (fun g hg => by simpa using (N6.out g hg).2.2.2.1.symm))
          have hca : (x3.alloc (.cells #[.int .i64 nn] 3 (0, 0))).cell? ⟨x3.heap.size, 0, none⟩ = some (.int .i64 nn) := by
            rw [cell_of_row _ x3.heap.size 0 _ _ _ (heap_alloc_new x3 _)]
            rfl
          have H4 := Lib.hid h4
          have TB := Lib.hid tB
          clear h4 t4 tB
          go_wp2_with (at_builtin; refine append_que rfl (.tmp 93) (.tmp 96) rfl q _ fs rfl R5a.out x3.heap.size 1 nn rfl hca (by have := HN5.out; omega) (by simp; omega) ?_)
          intro v7 w7 hown hg hat
          have W6 := R6a.out.turn (Turn.grown (l := (Value.slice ao5 n5 cp5).ownBlock.toList) hg (fun k hk => .inl (by rw [hk]; simp))) (fun g hg' hm => AP.out g (Option.mem_toList.1 hm) hg')
          have AP7a := apart_grow AP.out hat (fun g hg => by have h1 := (N6.out g hg).2.1; simp; omega)
          have H4a := H4.out.turn (Turn.alloc [] x3 (.cells #[.int .i64 nn] 3 (0, 0))) (by simp) (by simp) (by simp) (by simp)
          have off1 := O5.out.fast (k := wA.heap.size) (x := .int .i64 nn) (fun g hg => (N5.out g hg).2.1)
          have H7 := Lib.hid (H4a.grown hg off1 (fun g hg => (N5.out g hg).2.2))
          have OF7a := And.intro (off1.grow hat (fun p hp => by have h9 := (H4a.pts p hp).2.2.2; simpa using h9)) (O6.out.fast (x := .int .i64 nn) (fun g hg => (N6.out g hg).2.1))
          have B7 := Lib.hid ((BA.out.trans (TB.out.below (by have := BD.out; simp; omega) hqA)).trans (grown_below hg (fun g hg => (N5.out g hg).1) (by simp; omega)))
          obtain ⟨ao7, cp7, rfl, -⟩ := id hown
          obtain ⟨n7, hn7⟩ : ∃ n, n = (fs ++ [nn]).length := ⟨_, rfl⟩
          rw [← hn7] at hown AP7a OF7a ⊢
          have Q5 := Lib.hid hown
          have Q6 := Lib.hid W6
          have AP7 := Lib.hid AP7a
          have OF7 := Lib.hid OF7a
          rw [List.length_append, List.length_singleton, ← HN5.out] at hn7
          have LF : Hid ((F ++ [(wA.heap.size, Value.int .i64 nn)]).length = n7) := Lib.hid (by rw [List.length_append, List.length_singleton, hf1, hn7])
          have LS : Hid ((S).length = n6) := Lib.hid (by exact hs1)
          clear hown hg hat H4a off1 hca AP7a OF7a W6 ho3 hn7
          go_wp2_with fail
          refine (lenHI H7.out).mono ?_
          rintro e w8 ⟨rfl, t8⟩
          rw [LF.out, LS.out]
          have H8 := Lib.hid (H7.out.nil t8)
          have Q58 := Lib.hid (Q5.out.turn t8 (by simp))
          have Q68 := Lib.hid (Q6.out.turn t8 (by simp))
          have B8 := Lib.hid (B7.out.trans (t8.belowAll.mono (by have := B7.out.size; have := HQ.out; omega)))
          clear t8 H7 Q5 Q6 B7
          go_wp2_with fail
          refine (lostI H8.out).mono ?_
          rintro e w9 ⟨rfl, rfl⟩
          go_wp2
          go_roundw
          case rel => exact ⟨k + 1, lost, F ++ [(wA.heap.size, Value.int .i64 nn)], S, fs ++ [nn], ss, by omega, by omega, by go_num, by go_num, by omega, ⟨H8.out, snd_snoc HF.out, HSS.out⟩, ⟨Q58.out, Q68.out, by rw [List.length_append, List.length_singleton]; have := HN5.out; have := HN6.out; omega⟩, AP7.out, OF7.out, B8.out⟩
          case measure => simp [intOf]; omega
        · have hd : decide ((n5 : Int) < (m : Int)) = false := by simp; omega
          go_wp2_with fail
          rw [← HWA.out]
          rw [← HOO.out]
          refine (fastI_full HA.out nn (by omega) (by omega)).mono ?_
          rintro e w7 ⟨rfl, h4, t4⟩
          have Q5 := Lib.hid (RA5.out.turn t4 (fun g hg => by simpa using (N5.out g hg).2.2.1.symm))
          have Q6 := Lib.hid (RA6.out.turn t4 (fun g hg => by simpa using (N6.out g hg).2.2.1.symm))
          have B7 := Lib.hid (BA.out.trans (t4.below (by have := BD.out; simp; omega) hqA))
          have H7 := Lib.hid h4
          have AP7 := AP
          have OF7 := Lib.hid (And.intro O5.out O6.out)
          have LF := Lib.hid hf1
          have LS := Lib.hid hs1
          clear h4 t4
          go_wp2_with fail
          refine (lenHI H7.out).mono ?_
          rintro e w8 ⟨rfl, t8⟩
          rw [LF.out, LS.out]
          have H8 := Lib.hid (H7.out.nil t8)
          have Q58 := Lib.hid (Q5.out.turn t8 (by simp))
          have Q68 := Lib.hid (Q6.out.turn t8 (by simp))
          have B8 := Lib.hid (B7.out.trans (t8.belowAll.mono (by have := B7.out.size; have := HQ.out; omega)))
          clear t8 H7 Q5 Q6 B7
          go_wp2_with fail
          refine (lostI H8.out).mono ?_
          rintro e w9 ⟨rfl, rfl⟩
          go_wp2
          go_roundw
          case rel => exact ⟨k + 1, lost + 1, F, S, fs, ss, by omega, by omega, by go_num, by go_num, by omega, ⟨H8.out, HF.out, HSS.out⟩, ⟨Q58.out, Q68.out, by have := HN5.out; have := HN6.out; omega⟩, AP7.out, OF7.out, B8.out⟩
          case measure => simp [intOf]; omega
      · have hk0 : (kd == 0) = false := by simpa using k0
        by_cases k1 : kd = 1
        · subst k1
          by_cases hr : n6 < m
          · have hd : decide ((n6 : Int) < (m : Int)) = true := by simp; omega
            go_wp2_with fail
            rw [← HWA.out]
            rw [← HOO.out]
            refine (slowI_room HA.out nn (by omega)).mono ?_
            rintro e x3 ⟨rfl, h4, t4⟩
            have ho3 : x3.cell? ⟨oo, 1, none⟩ = some (.int .i64 nn) := t4.cell hoN (by simpa using HON.out.2.1)
            have hsz := t4.size
            have tB : Turn [c2] wA (x3.alloc (.cells #[.int .i64 nn] 3 (0, 0))) := t4.trans (Turn.alloc [] x3 _) (by simp)
            have R5a := Lib.hid (RA5.out.turn tB (fun g hg => by simpa using (N5.out g hg).2.2.2.2.symm))
            have R6a := Lib.hid (RA6.out.turn tB (fun g hg => by simpa using (N6.out g hg).2.2.2.2.symm))
            have hca : (x3.alloc (.cells #[.int .i64 nn] 3 (0, 0))).cell? ⟨x3.heap.size, 0, none⟩ = some (.int .i64 nn) := by
              rw [cell_of_row _ x3.heap.size 0 _ _ _ (heap_alloc_new x3 _)]
              rfl
            have H4 := Lib.hid h4
            have TB := Lib.hid tB
            clear h4 t4 tB
            go_wp2_with (at_builtin; refine append_que rfl (.tmp 115) (.tmp 118) rfl q _ ss rfl R6a.out x3.heap.size 1 nn rfl hca (by have := HN6.out; omega) (by simp; omega) ?_)
            intro v7 w7 hown hg hat
            have W6 := R5a.out.turn (Turn.grown (l := (Value.slice ao6 n6 cp6).ownBlock.toList) hg (fun k hk => .inl (by rw [hk]; simp))) (fun g hg' hm => AP.out g hg' (Option.mem_toList.1 hm))
            have AP7a := fun g hg e => apart_grow (fun g' h1 h2 => AP.out g' h2 h1) hat (fun g' h1 => by have h2 := (N5.out g' h1).2.1; simp; omega) g e hg
            have H4a := H4.out.turn (Turn.alloc [] x3 (.cells #[.int .i64 nn] 3 (0, 0))) (by simp) (by simp) (by simp) (by simp)
            have off1 := O6.out.slow (k := wA.heap.size) (x := .int .i64 nn) (fun g hg => (N6.out g hg).2.1)
            have H7 := Lib.hid (H4a.grown hg off1 (fun g hg => (N6.out g hg).2.2))
            have OF7a := And.intro (O5.out.slow (x := .int .i64 nn) (fun g hg => (N5.out g hg).2.1)) (off1.grow hat (fun p hp => by have h9 := (H4a.pts p hp).2.2.2; simpa using h9))
            have B7 := Lib.hid ((BA.out.trans (TB.out.below (by have := BD.out; simp; omega) hqA)).trans (grown_below hg (fun g hg => (N6.out g hg).1) (by simp; omega)))
            obtain ⟨ao7, cp7, rfl, -⟩ := id hown
            obtain ⟨n7, hn7⟩ : ∃ n, n = (ss ++ [nn]).length := ⟨_, rfl⟩
            rw [← hn7] at hown AP7a OF7a ⊢
            have Q6 := Lib.hid hown
            have Q5 := Lib.hid W6
            have AP7 := Lib.hid AP7a
            have OF7 := Lib.hid OF7a
            rw [List.length_append, List.length_singleton, ← HN6.out] at hn7
            have LF : Hid ((F).length = n5) := Lib.hid (by exact hf1)
            have LS : Hid ((S ++ [(wA.heap.size, Value.int .i64 nn)]).length = n7) := Lib.hid (by rw [List.length_append, List.length_singleton, hs1, hn7])
            clear hown hg hat H4a off1 hca AP7a OF7a W6 ho3 hn7
            go_wp2_with fail
            refine (lenHI H7.out).mono ?_
            rintro e w8 ⟨rfl, t8⟩
            rw [LF.out, LS.out]
            have H8 := Lib.hid (H7.out.nil t8)
            have Q58 := Lib.hid (Q5.out.turn t8 (by simp))
            have Q68 := Lib.hid (Q6.out.turn t8 (by simp))
            have B8 := Lib.hid (B7.out.trans (t8.belowAll.mono (by have := B7.out.size; have := HQ.out; omega)))
            clear t8 H7 Q5 Q6 B7
            go_wp2_with fail
            refine (lostI H8.out).mono ?_
            rintro e w9 ⟨rfl, rfl⟩
            go_wp2
            go_roundw
            case rel => exact ⟨k + 1, lost, F, S ++ [(wA.heap.size, Value.int .i64 nn)], fs, ss ++ [nn], by omega, by omega, by go_num, by go_num, by omega, ⟨H8.out, HF.out, snd_snoc HSS.out⟩, ⟨Q58.out, Q68.out, by rw [List.length_append, List.length_singleton]; have := HN5.out; have := HN6.out; omega⟩, AP7.out, OF7.out, B8.out⟩
            case measure => simp [intOf]; omega
          · have hd : decide ((n6 : Int) < (m : Int)) = false := by simp; omega
            go_wp2_with fail
            rw [← HWA.out]
            rw [← HOO.out]
            refine (slowI_full HA.out nn (by omega) (by omega)).mono ?_
            rintro e w7 ⟨rfl, h4, t4⟩
            have Q5 := Lib.hid (RA5.out.turn t4 (fun g hg => by simpa using (N5.out g hg).2.2.1.symm))
            have Q6 := Lib.hid (RA6.out.turn t4 (fun g hg => by simpa using (N6.out g hg).2.2.1.symm))
            have B7 := Lib.hid (BA.out.trans (t4.below (by have := BD.out; simp; omega) hqA))
            have H7 := Lib.hid h4
            have AP7 := AP
            have OF7 := Lib.hid (And.intro O5.out O6.out)
            have LF := Lib.hid hf1
            have LS := Lib.hid hs1
            clear h4 t4
            go_wp2_with fail
            refine (lenHI H7.out).mono ?_
            rintro e w8 ⟨rfl, t8⟩
            rw [LF.out, LS.out]
            have H8 := Lib.hid (H7.out.nil t8)
            have Q58 := Lib.hid (Q5.out.turn t8 (by simp))
            have Q68 := Lib.hid (Q6.out.turn t8 (by simp))
            have B8 := Lib.hid (B7.out.trans (t8.belowAll.mono (by have := B7.out.size; have := HQ.out; omega)))
            clear t8 H7 Q5 Q6 B7
            go_wp2_with fail
            refine (lostI H8.out).mono ?_
            rintro e w9 ⟨rfl, rfl⟩
            go_wp2
            go_roundw
            case rel => exact ⟨k + 1, lost + 1, F, S, fs, ss, by omega, by omega, by go_num, by go_num, by omega, ⟨H8.out, HF.out, HSS.out⟩, ⟨Q58.out, Q68.out, by have := HN5.out; have := HN6.out; omega⟩, AP7.out, OF7.out, B8.out⟩
            case measure => simp [intOf]; omega
        · have hk1 : (kd == 1) = false := by simpa using k1
          by_cases hFe : F = []
          · have HF0 := Lib.hid hFe
            have hz5 : n5 = 0 := by rw [hFe] at hf1; simpa using hf1.symm
            have hd4 : decide ((0 : Int) < (n5 : Int)) = false := by simp; omega
            have hd4' : decide (0 < n5) = false := by simp; omega
            clear hz5
            clear hFe
            by_cases hSe : S = []
            · have HS0 := Lib.hid hSe
              clear hSe
              have hz5 : n5 = 0 := by rw [HF0.out] at hf1; simpa using hf1.symm
              have hz6 : n6 = 0 := by rw [HS0.out] at hs1; simpa using hs1.symm
              have hd1 : decide ((0 : Int) < (n5 : Int) + (n6 : Int)) = false := by simp; omega
              have hd1' : decide (0 < n5 + n6) = false := by simp; omega
              have hd2 : decide ((0 : Int) < (n6 : Int)) = false := by simp; omega
              have hd2' : decide (0 < n6) = false := by simp; omega
              clear hz5 hz6
              go_wp2_with fail
              rw [← HWA.out]
              refine (takI_none (by have h := HA.out; rw [HF0.out, HS0.out] at h; exact h)).mono ?_
              rintro e w7 ⟨rfl, rfl⟩
              have H7 := HA
              have Q5 := RA5
              have Q6 := RA6
              have B7 := BA
              have AP7 := AP
              have OF7 := Lib.hid (And.intro O5.out O6.out)
              have LF := Lib.hid hf1
              have LS := Lib.hid hs1
              go_wp2_with fail
              refine (lenHI H7.out).mono ?_
              rintro e w8 ⟨rfl, t8⟩
              rw [LF.out, LS.out]
              have H8 := Lib.hid (H7.out.nil t8)
              have Q58 := Lib.hid (Q5.out.turn t8 (by simp))
              have Q68 := Lib.hid (Q6.out.turn t8 (by simp))
              have B8 := Lib.hid (B7.out.trans (t8.belowAll.mono (by have := B7.out.size; have := HQ.out; omega)))
              clear t8 H7 Q5 Q6 B7
              go_wp2_with fail
              refine (lostI H8.out).mono ?_
              rintro e w9 ⟨rfl, rfl⟩
              go_wp2
              go_roundw
              case rel => exact ⟨k + 1, lost, F, S, fs, ss, by omega, by omega, by go_num, by go_num, by omega, ⟨H8.out, HF.out, HSS.out⟩, ⟨Q58.out, Q68.out, by have := HN5.out; have := HN6.out; omega⟩, AP7.out, OF7.out, B8.out⟩
              case measure => simp [intOf]; omega
            · rcases S with _ | ⟨⟨kk, v⟩, S⟩
              · exact absurd rfl hSe
              clear hSe
              have HFX := HSS.out
              simp only [List.map_cons] at HFX
              by_cases hcc : cp6 = 1
              · obtain ⟨y, L', hL', rfl, hrest⟩ := ints_cons HFX
                subst hL'
                have hpos : 0 < n6 := by have := HN6.out; simp at this; omega
                have hd1 : decide ((0 : Int) < (n5 : Int) + (n6 : Int)) = true := by simp; omega
                have hd1' : decide (0 < n5 + n6) = true := by simp; omega
                have hd2 : decide ((0 : Int) < (n6 : Int)) = true := by simp; omega
                have hd2' : decide (0 < n6) = true := by simp; omega
                have hd3 : (0 : Int) < (n6 : Int) := by omega
                clear HFX
                go_wp2_with fail
                rw [← HWA.out]
                refine (takI_slow (by have h := HA.out; rw [HF0.out] at h; exact h)).mono ?_
                rintro e w7 ⟨rfl, h4, t4⟩
                rw [← HF0.out] at h4
                have Q6a := RA6.out.turn t4 (fun g hg => by simpa using (N6.out g hg).2.2.2.2.symm)
                have Q5a := RA5.out.turn t4 (fun g hg => by simpa using (N5.out g hg).2.2.2.2.symm)
                obtain ⟨-, hcp, hq', hown', g, kq, hao, hcell⟩ := Q6a.cut
                have hap' := AP.out
                have ho5' := O5.out
                have ho6' := O6.out
                subst hao
                have hcpc := hcp
                rw [show cutAt (some (⟨g, kq, none⟩ : Addr)) cp6 1 = some ⟨g, kq, none⟩ by simp [cutAt, hcc]] at hq' hown'
                subst hcc; simp only [Nat.sub_self] at hq' hown'
                have AP7a : ∀ g', (Value.slice ao5 n5 cp5).ownBlock = some g' → (Value.slice (some ⟨g, kq, none⟩) (n6 - 1) 0).ownBlock ≠ some g' := fun g hg h2 => hap' g hg (by rw [← hown']; exact h2)
                have OF7a : Off (Value.slice ao5 n5 cp5) (F ++ S) ∧ Off (Value.slice (some ⟨g, kq, none⟩) (n6 - 1) 0) (F ++ S) := ⟨fun g hg p hp => ho5' g hg p (mem_mid hp), fun g hg p hp => ho6' g (by rw [← hown']; exact hg) p (mem_mid hp)⟩
                have tD := Turn.drew [] w7
                have H7 := Lib.hid (h4.nil tD)
                have Q6 := Lib.hid (hq'.turn tD (by simp))
                have Q5 := Lib.hid (Q5a.turn tD (by simp))
                have hq7 : q ≤ w7.heap.size := by have := t4.size; omega
                have B7 : Hid (Below q w w7.drew) := Lib.hid ((BA.out.trans (t4.below (by have := BD.out; simp; omega) hqA)).trans (tD.belowAll.mono hq7))
                have AP7 := Lib.hid AP7a
                have OF7 := Lib.hid OF7a
                have LF : Hid ((F).length = n5) := Lib.hid (by exact hf1)
                have LS : Hid ((S).length = n6 - 1) := Lib.hid (by simp at hs1; omega)
                have HRE := Lib.hid hrest
                clear h4 t4 Q5a Q6a hq' hown' hap' ho5' ho6' AP7a OF7a tD hrest hcpc
                go_wp2_with fail
                go_region
                go_wp2_with fail
                refine (lenHI H7.out).mono ?_
                rintro e w8 ⟨rfl, t8⟩
                rw [LF.out, LS.out]
                have H8 := Lib.hid (H7.out.nil t8)
                have Q58 := Lib.hid (Q5.out.turn t8 (by simp))
                have Q68 := Lib.hid (Q6.out.turn t8 (by simp))
                have B8 := Lib.hid (B7.out.trans (t8.belowAll.mono (by have := B7.out.size; have := HQ.out; omega)))
                clear t8 H7 Q5 Q6 B7
                go_wp2_with fail
                refine (lostI H8.out).mono ?_
                rintro e w9 ⟨rfl, rfl⟩
                go_wp2
                go_roundw
                case rel => exact ⟨k + 1, lost, F, S, fs, L', by omega, by omega, by go_num, by go_num, by omega, ⟨H8.out, HF.out, HRE.out⟩, ⟨Q58.out, Q68.out, by have := HN5.out; have := HN6.out; simp at *; omega⟩, AP7.out, OF7.out, B8.out⟩
                case measure => simp [intOf]; omega
              · obtain ⟨y, L', hL', rfl, hrest⟩ := ints_cons HFX
                subst hL'
                have hpos : 0 < n6 := by have := HN6.out; simp at this; omega
                have hd1 : decide ((0 : Int) < (n5 : Int) + (n6 : Int)) = true := by simp; omega
                have hd1' : decide (0 < n5 + n6) = true := by simp; omega
                have hd2 : decide ((0 : Int) < (n6 : Int)) = true := by simp; omega
                have hd2' : decide (0 < n6) = true := by simp; omega
                have hd3 : (0 : Int) < (n6 : Int) := by omega
                clear HFX
                go_wp2_with fail
                rw [← HWA.out]
                refine (takI_slow (by have h := HA.out; rw [HF0.out] at h; exact h)).mono ?_
                rintro e w7 ⟨rfl, h4, t4⟩
                rw [← HF0.out] at h4
                have Q6a := RA6.out.turn t4 (fun g hg => by simpa using (N6.out g hg).2.2.2.2.symm)
                have Q5a := RA5.out.turn t4 (fun g hg => by simpa using (N5.out g hg).2.2.2.2.symm)
                obtain ⟨-, hcp, hq', hown', g, kq, hao, hcell⟩ := Q6a.cut
                have hap' := AP.out
                have ho5' := O5.out
                have ho6' := O6.out
                subst hao
                have hcpc := hcp
                rw [show cutAt (some (⟨g, kq, none⟩ : Addr)) cp6 1 = some ⟨g, kq + 1, none⟩ by simp [cutAt, hcc, Addr.add]] at hq' hown'
                skip
                have AP7a : ∀ g', (Value.slice ao5 n5 cp5).ownBlock = some g' → (Value.slice (some ⟨g, kq + 1, none⟩) (n6 - 1) (cp6 - 1)).ownBlock ≠ some g' := fun g hg h2 => hap' g hg (by rw [← hown']; exact h2)
                have OF7a : Off (Value.slice ao5 n5 cp5) (F ++ S) ∧ Off (Value.slice (some ⟨g, kq + 1, none⟩) (n6 - 1) (cp6 - 1)) (F ++ S) := ⟨fun g hg p hp => ho5' g hg p (mem_mid hp), fun g hg p hp => ho6' g (by rw [← hown']; exact hg) p (mem_mid hp)⟩
                have tD := Turn.drew [] w7
                have H7 := Lib.hid (h4.nil tD)
                have Q6 := Lib.hid (hq'.turn tD (by simp))
                have Q5 := Lib.hid (Q5a.turn tD (by simp))
                have hq7 : q ≤ w7.heap.size := by have := t4.size; omega
                have B7 : Hid (Below q w w7.drew) := Lib.hid ((BA.out.trans (t4.below (by have := BD.out; simp; omega) hqA)).trans (tD.belowAll.mono hq7))
                have AP7 := Lib.hid AP7a
                have OF7 := Lib.hid OF7a
                have LF : Hid ((F).length = n5) := Lib.hid (by exact hf1)
                have LS : Hid ((S).length = n6 - 1) := Lib.hid (by simp at hs1; omega)
                have HRE := Lib.hid hrest
                clear h4 t4 Q5a Q6a hq' hown' hap' ho5' ho6' AP7a OF7a tD hrest hcpc
                go_wp2_with fail
                go_region
                go_wp2_with fail
                refine (lenHI H7.out).mono ?_
                rintro e w8 ⟨rfl, t8⟩
                rw [LF.out, LS.out]
                have H8 := Lib.hid (H7.out.nil t8)
                have Q58 := Lib.hid (Q5.out.turn t8 (by simp))
                have Q68 := Lib.hid (Q6.out.turn t8 (by simp))
                have B8 := Lib.hid (B7.out.trans (t8.belowAll.mono (by have := B7.out.size; have := HQ.out; omega)))
                clear t8 H7 Q5 Q6 B7
                go_wp2_with fail
                refine (lostI H8.out).mono ?_
                rintro e w9 ⟨rfl, rfl⟩
                go_wp2
                go_roundw
                case rel => exact ⟨k + 1, lost, F, S, fs, L', by omega, by omega, by go_num, by go_num, by omega, ⟨H8.out, HF.out, HRE.out⟩, ⟨Q58.out, Q68.out, by have := HN5.out; have := HN6.out; simp at *; omega⟩, AP7.out, OF7.out, B8.out⟩
                case measure => simp [intOf]; omega
          · rcases F with _ | ⟨⟨kk, v⟩, F⟩
            · exact absurd rfl hFe
            clear hFe
            have HFX := HF.out
            simp only [List.map_cons] at HFX
            by_cases hcc : cp5 = 1
            · obtain ⟨y, L', hL', rfl, hrest⟩ := ints_cons HFX
              subst hL'
              have hpos : 0 < n5 := by have := HN5.out; simp at this; omega
              have hd1 : decide ((0 : Int) < (n5 : Int) + (n6 : Int)) = true := by simp; omega
              have hd1' : decide (0 < n5 + n6) = true := by simp; omega
              have hd2 : decide ((0 : Int) < (n5 : Int)) = true := by simp; omega
              have hd2' : decide (0 < n5) = true := by simp; omega
              have hd3 : (0 : Int) < (n5 : Int) := by omega
              clear HFX
              go_wp2_with fail
              rw [← HWA.out]
              refine (takI_fast (by have h := HA.out; exact h)).mono ?_
              rintro e w7 ⟨rfl, h4, t4⟩
              have Q5a := RA5.out.turn t4 (fun g hg => by simpa using (N5.out g hg).2.2.2.1.symm)
              have Q6a := RA6.out.turn t4 (fun g hg => by simpa using (N6.out g hg).2.2.2.1.symm)
              obtain ⟨-, hcp, hq', hown', g, kq, hao, hcell⟩ := Q5a.cut
              have hap' := AP.out
              have ho5' := O5.out
              have ho6' := O6.out
              subst hao
              have hcpc := hcp
              rw [show cutAt (some (⟨g, kq, none⟩ : Addr)) cp5 1 = some ⟨g, kq, none⟩ by simp [cutAt, hcc]] at hq' hown'
              subst hcc; simp only [Nat.sub_self] at hq' hown'
              have AP7a : ∀ g', (Value.slice (some ⟨g, kq, none⟩) (n5 - 1) 0).ownBlock = some g' → (Value.slice ao6 n6 cp6).ownBlock ≠ some g' := fun g hg => hap' g (by rw [← hown']; exact hg)
              have OF7a : Off (Value.slice (some ⟨g, kq, none⟩) (n5 - 1) 0) (F ++ S) ∧ Off (Value.slice ao6 n6 cp6) (F ++ S) := ⟨fun g hg p hp => ho5' g (by rw [← hown']; exact hg) p (List.mem_cons_of_mem _ hp), fun g hg p hp => ho6' g hg p (List.mem_cons_of_mem _ hp)⟩
              have tD := Turn.drew [] w7
              have H7 := Lib.hid (h4.nil tD)
              have Q5 := Lib.hid (hq'.turn tD (by simp))
              have Q6 := Lib.hid (Q6a.turn tD (by simp))
              have hq7 : q ≤ w7.heap.size := by have := t4.size; omega
              have B7 : Hid (Below q w w7.drew) := Lib.hid ((BA.out.trans (t4.below (by have := BD.out; simp; omega) hqA)).trans (tD.belowAll.mono hq7))
              have AP7 := Lib.hid AP7a
              have OF7 := Lib.hid OF7a
              have LF : Hid ((F).length = n5 - 1) := Lib.hid (by simp at hf1; omega)
              have LS : Hid ((S).length = n6) := Lib.hid (by exact hs1)
              have HRE := Lib.hid hrest
              clear h4 t4 Q5a Q6a hq' hown' hap' ho5' ho6' AP7a OF7a tD hrest hcpc
              go_wp2_with fail
              go_region
              go_wp2_with fail
              refine (lenHI H7.out).mono ?_
              rintro e w8 ⟨rfl, t8⟩
              rw [LF.out, LS.out]
              have H8 := Lib.hid (H7.out.nil t8)
              have Q58 := Lib.hid (Q5.out.turn t8 (by simp))
              have Q68 := Lib.hid (Q6.out.turn t8 (by simp))
              have B8 := Lib.hid (B7.out.trans (t8.belowAll.mono (by have := B7.out.size; have := HQ.out; omega)))
              clear t8 H7 Q5 Q6 B7
              go_wp2_with fail
              refine (lostI H8.out).mono ?_
              rintro e w9 ⟨rfl, rfl⟩
              go_wp2
              go_roundw
              case rel => exact ⟨k + 1, lost, F, S, L', ss, by omega, by omega, by go_num, by go_num, by omega, ⟨H8.out, HRE.out, HSS.out⟩, ⟨Q58.out, Q68.out, by have := HN5.out; have := HN6.out; simp at *; omega⟩, AP7.out, OF7.out, B8.out⟩
              case measure => simp [intOf]; omega
            · obtain ⟨y, L', hL', rfl, hrest⟩ := ints_cons HFX
              subst hL'
              have hpos : 0 < n5 := by have := HN5.out; simp at this; omega
              have hd1 : decide ((0 : Int) < (n5 : Int) + (n6 : Int)) = true := by simp; omega
              have hd1' : decide (0 < n5 + n6) = true := by simp; omega
              have hd2 : decide ((0 : Int) < (n5 : Int)) = true := by simp; omega
              have hd2' : decide (0 < n5) = true := by simp; omega
              have hd3 : (0 : Int) < (n5 : Int) := by omega
              clear HFX
              go_wp2_with fail
              rw [← HWA.out]
              refine (takI_fast (by have h := HA.out; exact h)).mono ?_
              rintro e w7 ⟨rfl, h4, t4⟩
              have Q5a := RA5.out.turn t4 (fun g hg => by simpa using (N5.out g hg).2.2.2.1.symm)
              have Q6a := RA6.out.turn t4 (fun g hg => by simpa using (N6.out g hg).2.2.2.1.symm)
              obtain ⟨-, hcp, hq', hown', g, kq, hao, hcell⟩ := Q5a.cut
              have hap' := AP.out
              have ho5' := O5.out
              have ho6' := O6.out
              subst hao
              have hcpc := hcp
              rw [show cutAt (some (⟨g, kq, none⟩ : Addr)) cp5 1 = some ⟨g, kq + 1, none⟩ by simp [cutAt, hcc, Addr.add]] at hq' hown'
              skip
              have AP7a : ∀ g', (Value.slice (some ⟨g, kq + 1, none⟩) (n5 - 1) (cp5 - 1)).ownBlock = some g' → (Value.slice ao6 n6 cp6).ownBlock ≠ some g' := fun g hg => hap' g (by rw [← hown']; exact hg)
              have OF7a : Off (Value.slice (some ⟨g, kq + 1, none⟩) (n5 - 1) (cp5 - 1)) (F ++ S) ∧ Off (Value.slice ao6 n6 cp6) (F ++ S) := ⟨fun g hg p hp => ho5' g (by rw [← hown']; exact hg) p (List.mem_cons_of_mem _ hp), fun g hg p hp => ho6' g hg p (List.mem_cons_of_mem _ hp)⟩
              have tD := Turn.drew [] w7
              have H7 := Lib.hid (h4.nil tD)
              have Q5 := Lib.hid (hq'.turn tD (by simp))
              have Q6 := Lib.hid (Q6a.turn tD (by simp))
              have hq7 : q ≤ w7.heap.size := by have := t4.size; omega
              have B7 : Hid (Below q w w7.drew) := Lib.hid ((BA.out.trans (t4.below (by have := BD.out; simp; omega) hqA)).trans (tD.belowAll.mono hq7))
              have AP7 := Lib.hid AP7a
              have OF7 := Lib.hid OF7a
              have LF : Hid ((F).length = n5 - 1) := Lib.hid (by simp at hf1; omega)
              have LS : Hid ((S).length = n6) := Lib.hid (by exact hs1)
              have HRE := Lib.hid hrest
              clear h4 t4 Q5a Q6a hq' hown' hap' ho5' ho6' AP7a OF7a tD hrest hcpc
              go_wp2_with fail
              go_region
              go_wp2_with fail
              refine (lenHI H7.out).mono ?_
              rintro e w8 ⟨rfl, t8⟩
              rw [LF.out, LS.out]
              have H8 := Lib.hid (H7.out.nil t8)
              have Q58 := Lib.hid (Q5.out.turn t8 (by simp))
              have Q68 := Lib.hid (Q6.out.turn t8 (by simp))
              have B8 := Lib.hid (B7.out.trans (t8.belowAll.mono (by have := B7.out.size; have := HQ.out; omega)))
              clear t8 H7 Q5 Q6 B7
              go_wp2_with fail
              refine (lostI H8.out).mono ?_
              rintro e w9 ⟨rfl, rfl⟩
              go_wp2
              go_roundw
              case rel => exact ⟨k + 1, lost, F, S, L', ss, by omega, by omega, by go_num, by go_num, by omega, ⟨H8.out, HRE.out, HSS.out⟩, ⟨Q58.out, Q68.out, by have := HN5.out; have := HN6.out; simp at *; omega⟩, AP7.out, OF7.out, B8.out⟩
              case measure => simp [intOf]; omega
    · by_cases hl : k < l1.length
      · have hd60 : decide ((k : Int) < 200) = false := by simp; omega
        go_wp2
        go_ret
        refine ⟨rfl, ?_⟩
        rw [← HQ.out]
        exact B3.out
      · go_wp2
        go_ret
        refine ⟨rfl, ?_⟩
        rw [← HQ.out]
        exact B3.out

end Go.Proofs.Ytijpfahiedggmaa
