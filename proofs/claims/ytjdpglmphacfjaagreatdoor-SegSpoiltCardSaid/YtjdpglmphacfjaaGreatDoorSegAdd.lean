/-
  The walk of Add.
-/
import Derived.Test.YtjdpglmphacfjaaGreatDoorSegNext
import Derived.Deep.CutRange
namespace Go.Proofs.YtjdpglmphacfjaaGreatDoor
open Go.RowKit

theorem sl_nil_test (w : World) (a : Option Addr) (n c : Nat) : (binOp .eql 31 (.slice a n c) (.slice none 0 0)).run Tryz.prog w = .ok (.bool a.isNone) w :=
  Lib.run_eql_slice_nil w _ _ a n c 0 0 Tryz.underlying31

theorem frB_ne (b : List UInt8) : frB b ≠ [] := by
  intro h
  have := congrArg List.length h
  rw [frB_length] at this
  simp at this

/-- What lies in a log's block. -/
theorem Lg.cells {L : List Nat} {wq w : World} {lb d room num : Nat} {T : List (List UInt8)} {M : List Fm} (h : Lg L wq w lb d room num T M) :
    ∃ ao cap, w.cell? ⟨lb, 2, none⟩ = some (.slice ao T.length cap) := by
  obtain ⟨_, _, _, _, _, v, l, hc, _, _, ht⟩ := h
  obtain ⟨ao, cap, rfl, -⟩ := ht.form
  exact ⟨ao, cap, (three_cells hc).2.2.1⟩

set_option maxHeartbeats 1000000 in
theorem add_form {L : List Nat} {wq w : World} {lb d room num : Nat} {T : List (List UInt8)} {M : List Fm} (_h : Lg L wq w lb d room num T M) (ao : Option Addr) (c : Nat) (b : List UInt8) (hb : okF b = false) :
    Calls Tryz.prog 10 #[.pointer (some ⟨lb, 0, none⟩), .slice ao b.length c] w fun e w' => e = .returned (.int .i64 1) ∧ w = w' := by
  have C := Lib.hid (frame_none ao c b w hb)
  have nt := sl_nil_test
  generalize b.length = nb at *
  go_enter Tryz.func10, Tryz.ntmps10
  go_wp2_with fail
  refine C.out.mono ?_
  rintro e w' ⟨rfl, rfl⟩
  go_wp2
  go_ret
  exact ⟨rfl, rfl⟩

/-- In which segment a text is to stand, and what is there then. -/
def addTo (M : List Fm) (num : Nat) : Nat := if 2000 ≤ (bytesOf M (segName num)).length then num + 1 else num
def addM (M : List Fm) (num : Nat) : List Fm := if 2000 ≤ (bytesOf M (segName num)).length then synM M (segName num) else M

set_option maxHeartbeats 4000000 in
set_option maxRecDepth 100000 in
theorem add_calls {L : List Nat} {w : World} {lb d room num : Nat} {T : List (List UInt8)} {M : List Fm} (h : Lg L w w lb d room num T M) (ao : Option Addr) (c : Nat) (b : List UInt8) (hb : okF b = true) (hs : Sl w ao c b) (hL : ∀ A, ao = some A → b ≠ [] → A.block ∉ L)
    (hto : addTo M num ≤ 999) (hT : T.length < 1000000) :
    Calls Tryz.prog 10 #[.pointer (some ⟨lb, 0, none⟩), .slice ao b.length c] w fun e w' => e = .returned (.int .i64 (appE room (addM M num) (segName (addTo M num)) (frB b))) ∧
      (appE room (addM M num) (segName (addTo M num)) (frB b) = 0 → Lg L w w' lb d room (addTo M num) (T ++ [b]) (appM room (addM M num) (segName (addTo M num)) (frB b))) ∧
      (appE room (addM M num) (segName (addTo M num)) (frB b) ≠ 0 → Lg L w w' lb d room num T (appM room (addM M num) (segName (addTo M num)) (frB b))) := by
  have C := Lib.hid (frame_some ao c b w hb hs)
  have nt := sl_nil_test
  obtain ⟨c0, c1, -, -⟩ := h.head
  have hn := h.synced
  have H := Lib.hid h
  have HS := Lib.hid hs
  have HLL := Lib.hid hL
  have HTT := Lib.hid hT
  have HB := Lib.hid (okF_iff.1 hb)
  obtain ⟨nb, hnb⟩ : ∃ nb, nb = b.length := ⟨_, rfl⟩
  rw [← hnb] at C ⊢
  have HNB := Lib.hid hnb
  obtain ⟨tn, hto1⟩ : ∃ tn, tn = addTo M num := ⟨_, rfl⟩
  obtain ⟨M1, hM1⟩ : ∃ M1, M1 = addM M num := ⟨_, rfl⟩
  rw [← hto1] at hto ⊢
  rw [← hM1]
  have HTO := Lib.hid hto1
  have HM1 := Lib.hid hM1
  obtain ⟨er, her⟩ : ∃ er, er = appE room M1 (segName tn) (frB b) := ⟨_, rfl⟩
  rw [← her]
  have HER := Lib.hid her
  obtain ⟨M2, hM2⟩ : ∃ M2, M2 = appM room M1 (segName tn) (frB b) := ⟨_, rfl⟩
  rw [← hM2]
  have HM2 := Lib.hid hM2
  clear h hs hL hb hT hnb hto1 hM1 her hM2
  go_enter Tryz.func10, Tryz.ntmps10
  go_wp2_with fail
  refine C.out.mono ?_
  rintro e w1 ⟨af, cf, rfl, hf, haf, hb1⟩
  have t1 := Turn.of_below hb1 []
  have h1 := H.out.rebase t1
  have hnf : ∃ F, af = some F := by
    cases af with
    | none =>
      rcases hf with ⟨_, _, h0⟩ | ⟨A, hA, _⟩
      · exact absurd h0 (frB_ne b)
      · cases hA
    | some F => exact ⟨F, rfl⟩
  obtain ⟨F, rfl⟩ := hnf
  have hfL : F.block ∉ mine L w w := fun hm => by
    have := haf F rfl
    have := (mem_mine.1 hm).1
    omega
  have hbL : ∀ A, ao = some A → b ≠ [] → A.block ∉ mine L w w := fun A hA hne hm => by
    rcases (mem_mine.1 hm).2 with h2 | h2
    · exact HLL.out A hA hne h2
    · have h3 := HS.out
      rw [hA] at h3
      have := h3.lt hne
      omega
  have HS1 := Lib.hid (HS.out.turn t1 (by simp))
  have H1 := Lib.hid h1
  have HBK : Hid (∀ w' nm (T' : List (List UInt8)) M', Lg (mine L w w) w1 w' lb d room nm T' M' → Lg L w w' lb d room nm T' M') := Lib.hid (fun w' nm T' M' hh => hh.back (t1.mono (by simp)) H.out.2.1)
  have HFS := Lib.hid hf
  have HFL := Lib.hid hfL
  have HBL := Lib.hid hbL
  obtain ⟨q0, q1, -, -⟩ := h1.head
  clear h1 t1 hf haf hb1 hfL hbL C c0 c1 HS HLL
  obtain ⟨fl, hfl⟩ : ∃ fl, fl = (frB b).length := ⟨_, rfl⟩
  rw [← hfl]
  have HFLN := Lib.hid hfl
  generalize mine L w w = J at *
  clear H hfl
  go_wp2_with fail
  refine (full_calls H1.out).mono ?_
  rintro e w2 ⟨rfl, h2⟩
  have H2 := Lib.hid h2
  obtain ⟨r0, r1, -, -⟩ := h2.head
  clear h2 q0 q1
  go_upto_if 21 with fail
  go_cut [6, 7, 8] from 21 to 30 (fun v6 v7 v8 wx => v6 = .int .i64 (tn : Int) ∧ Lg J w1 wx lb d room num T M1)
  case first =>
    by_cases hfu : 2000 ≤ (bytesOf M (segName num)).length
    · have h1 : tn = num + 1 := by rw [HTO.out, addTo, if_pos hfu]
      have h2 : M1 = synM M (segName num) := by rw [HM1.out, addM, if_pos hfu]
      have C2 := Lib.hid (leave_calls H2.out (by omega))
      rw [← h1, ← h2] at C2
      rw [decide_eq_true hfu]
      clear hfu h1 h2
      go_wp2_with fail
      refine C2.out.mono ?_
      rintro e w3 ⟨rfl, h3⟩
      have H3 := Lib.hid h3
      clear h3
      go_wp2_with fail
      go_meet
      exact ⟨rfl, H3.out⟩
    · have h1 : tn = num := by rw [HTO.out, addTo, if_neg hfu]
      have h2 : M1 = M := by rw [HM1.out, addM, if_neg hfu]
      rw [decide_eq_false hfu]
      have HH : Hid (tn = num ∧ M1 = M) := Lib.hid ⟨h1, h2⟩
      clear hfu h1 h2
      go_wp2_with fail
      go_meet
      refine ⟨by rw [HH.out.1], by rw [HH.out.2]; exact H2.out⟩
  case rest =>
    obtain ⟨rfl, h3⟩ := hcut
    obtain ⟨x3, hx3⟩ : ∃ x3, x3 = wc := ⟨_, rfl⟩
    subst hx3
    obtain ⟨c0, c1, -, -⟩ := h3.head
    have H3 := Lib.hid h3
    have HTN := Lib.hid hto
    clear h3 r0 r1 H1 H2
    go_wp2_with fail
    go_region_held3 (fun w' => w'.cell? ⟨lb, 0, none⟩ = some (.pointer (some ⟨d, 0, none⟩)))
      (go_keep)
      (first
        | (go_at_call 25; ((with_reducible refine (lg_name (H3.out.turn (Turn.drew [] x3)) HTN.out).mono ?_); rintro e w4 ⟨rfl, h4⟩); obtain ⟨q0, -, -, -⟩ := h4.head; have H4 := Lib.hid h4; clear h4)
        | (go_at_call 20; rw [HFLN.out]; ((with_reducible refine (lg_append H4.out (segName_len tn) HFS.out (fun A hA _ => by cases hA; exact HFL.out)).mono ?_); rintro e w5 ⟨rfl, h5⟩); obtain ⟨q2, -, -, -⟩ := h5.head; have H5 := Lib.hid h5; clear h5))
    rw [← HER.out]
    have h5 := H5.out
    rw [← HM2.out] at h5
    by_cases her : er = 0
    · subst her
      obtain ⟨q4, q5, z5, -⟩ := h5.head
      have H5' := Lib.hid (h5.renum HTN.out)
      clear h5 H5 c0 c1 q0 q2
      go_wp2_with fail
      generalize w5.setCell ⟨lb, 1, none⟩ (.int .i64 (tn : Int)) = x6 at H5' ⊢
      have hsb := H5'.out.sl HS1.out HBL.out
      obtain ⟨g1, g2, g3, g4, g5, v, l, hc, hd, hl, ht⟩ := H5'.out
      obtain ⟨ao1, cap1, hv, -⟩ := ht.form
      subst hv
      have k2 := (three_cells hc).2.2.1
      have HZ2 : Hid (∀ x, Turn (Value.slice ao1 T.length cap1).ownBlock.toList x6 x → x.frozen? ⟨lb, 2, none⟩ = false) := Lib.hid (fun x t => unfrozen_of (t.heap hc (fun hm => (ht.1 lb (by simpa using hm)).2.1 rfl)))
      have CL := Lib.hid (clone_its ao c b x6.drew (hsb.turn (Turn.drew [] x6) (by simp)) (by have := HB.out; omega))
      rw [← HNB.out] at CL
      have G := Lib.hid (show Turn J w1 x6 ∧ (Tab w1 ∧ tabB ∉ J) ∧ (lb ∈ J ∨ w1.heap.size ≤ lb) ∧ (∀ i ∈ l, (i ∈ J ∨ w1.heap.size ≤ i) ∧ i ≠ lb) from ⟨g1, g2, g3, hl⟩)
      have HC := Lib.hid hc
      have HD := Lib.hid hd
      have HTX := Lib.hid ht
      clear g1 g2 g3 g4 g5 hc hd hl ht hsb q4 q5 z5 nt H5' H3 H4
      refine Ph.start [11] (fun w' => w'.cell? ⟨lb, 2, none⟩ = some (.slice ao1 T.length cap1)) (by kernel_rfl) k2 ?_
      intro hS
      refine Ph.take (i := 0) (d := some 46) (v := ?_) rfl (by rfl) (by kernel_rfl) (by kernel_rfl) (by kernel_rfl) (by kernel_rfl) (fun _ _ _ h => h) (by rfl) hS ?_ ?_
      rotate_left
      · intro x hx
        try dsimp only at hx
        go_simp
        try with_reducible rfl
      simp only [Act.put, List.setIfInBounds_toArray, List.set_cons_zero, List.set_cons_succ]
      refine Ph.take (i := 1) (d := some 47) (v := ?_) rfl (by rfl) (by kernel_rfl) (by kernel_rfl) (by kernel_rfl) (by kernel_rfl) (fun _ _ _ h => h) (by rfl) hS ?_ ?_
      rotate_left
      · intro x hx
        try dsimp only at hx
        go_simp
        try with_reducible rfl
      simp only [Act.put, List.setIfInBounds_toArray, List.set_cons_zero, List.set_cons_succ]
      refine Ph.take (i := 2) (d := some 48) (v := ?_) rfl (by rfl) (by kernel_rfl) (by kernel_rfl) (by kernel_rfl) (by kernel_rfl) (fun _ _ _ h => h) (by rfl) hS ?_ ?_
      rotate_left
      · intro x hx
        try dsimp only at hx
        go_simp
        try with_reducible rfl
      simp only [Act.put, List.setIfInBounds_toArray, List.set_cons_zero, List.set_cons_succ]
      refine Ph.take (i := 3) (d := some 49) (v := ?_) rfl (by rfl) (by kernel_rfl) (by kernel_rfl) (by kernel_rfl) (by kernel_rfl) (fun _ _ _ h => h) (by rfl) hS ?_ ?_
      rotate_left
      · intro x hx
        try dsimp only at hx
        go_simp
        try with_reducible rfl
      simp only [Act.put, List.setIfInBounds_toArray, List.set_cons_zero, List.set_cons_succ]
      refine Ph.take (i := 4) (d := some 50) (v := ?_) rfl (by rfl) (by kernel_rfl) (by kernel_rfl) (by kernel_rfl) (by kernel_rfl) (fun _ _ _ h => h) (by rfl) hS ?_ ?_
      rotate_left
      · intro x hx
        try dsimp only at hx
        go_simp
        try with_reducible rfl
      simp only [Act.put, List.setIfInBounds_toArray, List.set_cons_zero, List.set_cons_succ]
      refine Ph.take (i := 5) (d := some 51) (v := ?_) rfl (by rfl) (by kernel_rfl) (by kernel_rfl) (by kernel_rfl) (by kernel_rfl) (fun _ _ _ h => h) (by rfl) hS ?_ ?_
      rotate_left
      · intro x hx
        try dsimp only at hx
        go_simp
        try with_reducible rfl
      simp only [Act.put, List.setIfInBounds_toArray, List.set_cons_zero, List.set_cons_succ]
      refine Ph.one (i := 6) (by kernel_rfl) rfl ?_
      intro K hK
      rw [if_pos (by rfl)]
      go_simp
      refine CL.out.mono ?_
      rintro e w7 ⟨ao7, c7, rfl, hs7, ha7, hb7⟩
      have t7 : Turn [] x6 w7 := (Turn.drew [] x6).trans (Turn.of_below hb7 []) (by simp)
      dsimp only
      refine hK _ _ (t7.cell k2 (by simp)) (fun _ => ?_)
      clear hK K
      refine Ph.one (i := 7) (by kernel_rfl) rfl ?_
      intro K hK
      rw [if_pos (by rfl)]
      go_simp
      refine hK _ _ ((Turn.alloc [] w7 _).cell (t7.cell k2 (by simp)) (by simp)) (fun _ => ?_)
      clear hK K
      have hT7 := HTX.out.turn (t7.trans (Turn.alloc [] w7 (.cells #[.slice ao7 nb c7] 31)) (by simp)) (by simp)
      obtain ⟨xs, hxs, hfin⟩ := Txs.appended (U := [b]) (Q := fun k => (k ∈ J ∨ w1.heap.size ≤ k) ∧ k ≠ lb ∧ k ∉ l) hT7 [.slice ao7 nb c7] rfl (fun i hi => by
        have hi0 : i = 0 := by simpa using hi
        subst hi0
        refine ⟨ao7, c7, by rw [HNB.out]; rfl, hs7.turn (Turn.alloc [] w7 _) (by simp), fun A hA _ => ?_⟩
        have h1 := ha7 A hA
        have h2 : x6.drew.heap.size = x6.heap.size := rfl
        have h3 := lt_of_heap HC.out
        have h4 := G.out.1.size
        refine ⟨⟨.inr (by omega), by omega, fun hm => by have := HD.out.lt _ hm; omega⟩, fun e2 => ?_⟩
        obtain ⟨-, xs0, hr0, -⟩ := HTX.out
        have := (hr0.lt A.block e2).2
        omega) (fun k hk => hk) (fun k hk => by
        have h2 := t7.size
        have h3 := lt_of_heap HC.out
        have h4 := G.out.1.size
        simp at hk
        exact ⟨.inr (by omega), by omega, fun hm => by have := HD.out.lt _ hm; omega⟩)
      have hTn : T.length + 1 ≤ 2000000 := by have := HTT.out; omega
      refine Ph.one (i := 8) (by kernel_rfl) rfl ?_
      intro K hK
      refine step_append_tx (by rfl) (.tmp 50) (.tmp 53) (by rfl) (.slice ao1 T.length cap1) T.length xs (by rfl) hxs ⟨w7.heap.size, 0, none⟩ 1 1 [.slice ao7 nb c7] (by rfl) rfl (one_new w7 _ _) (by intro u hu; simp at hu; subst hu; rfl) hTn ?_
      intro v8 w8 hr8 hg8 hl8
      have HT8 := Lib.hid (hfin v8 w8 hr8 hg8 hl8)
      have T8 : Turn (Value.slice ao1 T.length cap1).ownBlock.toList x6 w8 := ((t7.mono (by simp)).trans (Turn.alloc (Value.slice ao1 T.length cap1).ownBlock.toList w7 _) (fun i hi => .inl hi)).trans (Turn.grown hg8 (fun k hk => .inl (by simp [hk]))) (fun i hi => .inl hi)
      have hlbv : lb ∉ (Value.slice ao1 T.length cap1).ownBlock.toList := fun hm => (HTX.out.1 lb (by simpa using hm)).2.1 rfl
      have k8 := T8.cell k2 hlbv
      have z8 := HZ2.out _ T8
      obtain ⟨ao8, cap8, hv8, -⟩ := HT8.out.form
      rw [List.length_append, List.length_singleton] at hv8
      have HT8' := Lib.hid T8
      subst hv8
      refine hK _ _ k8 (fun hS2 => ?_)
      clear hK K hxs hfin hr8 hg8 hl8 hs7 ha7 hb7 hT7
      change Ph _ _ _ _ _ _ _ _ (Act.put _ (some 54) _) _
      simp only [Act.put, List.setIfInBounds_toArray, List.set_cons_zero, List.set_cons_succ]
      refine Ph.one (i := 9) (by kernel_rfl) rfl ?_
      intro K hK
      rw [if_pos (by rfl)]
      go_simp
      refine hK _ _ k8 (fun hS3 => ?_)
      clear hK K
      refine Ph.take (i := 10) (d := some 56) (v := ?_) rfl (by rfl) (by kernel_rfl) (by kernel_rfl) (by kernel_rfl) (by kernel_rfl) (fun _ _ _ h => h) (by rfl) hS3 ?_ ?_
      rotate_left
      · intro x hx
        try dsimp only at hx
        go_simp
        try with_reducible rfl
      simp only [Act.put, List.setIfInBounds_toArray, List.set_cons_zero, List.set_cons_succ]
      refine Ph.tardy (i := 11) (by kernel_rfl) (by kernel_rfl) rfl ?_
      intro K hK
      rw [if_pos (by rfl)]
      go_simp
      refine hK _ _ (Ph.done (by kernel_rfl) ?_ _)
      clear hK K
      go_wp2
      go_ret
      refine ⟨rfl, HBK.out _ _ _ _ ?_⟩
      have tS : Turn [lb] w8 (w8.setCell ⟨lb, 2, none⟩ (.slice ao8 (T.length + 1) cap8)) := Turn.setCell w8 (by simp) _
      obtain ⟨g1, g2, g3, g4⟩ := G.out
      refine ⟨(g1.trans HT8'.out (fun i hi => (HTX.out.1 i (by simpa using hi)).1)).trans tS (fun i hi => by
          have : i = lb := by simpa using hi
          rw [this]
          exact g3), g2, g3, HTN.out, ?_, _, l, block_set (HT8'.out.heap HC.out hlbv) _, (HD.out.turn HT8'.out (fun i hi hm => (HTX.out.1 i (by simpa using hm)).2.2 hi)).turn tS (fun i hi hm => (g4 i hi).2 (by simpa using hm)), g4, ?_⟩
      · rw [List.length_append, List.length_singleton]
        have := HTT.out
        omega
      · exact HT8.out.turn tS (fun k hk hm => hk.2.1 (by simpa using hm))
    · have e1 : (er == 0) = false := by simpa using her
      have e2 : decide (er = 0) = false := by simpa using her
      have HN0 := Lib.hid her
      have H6 := Lib.hid h5
      clear h5 H5 her
      go_wp2
      go_ret
      exact ⟨rfl, fun h => absurd h HN0.out, fun _ => HBK.out _ _ _ _ H6.out⟩

end Go.Proofs.YtjdpglmphacfjaaGreatDoor
