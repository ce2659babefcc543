/-
  The walk of the law's own 'do': one operation of both disks.
-/
import Derived.Test.YtlcilbbgfilefaaSame
import Derived.Test.YtlcilbbgfilefaaRefFallWalk
import Derived.Test.YtlcilbbgfilefaaOpenOps3
import Derived.Test.YtlcilbbgfilefaaShortNew
namespace Go.Proofs.Ytlcilbbgfilefaa
open Go.RowKit

theorem five_cells {w : World} {b : Nat} {v0 v1 v2 v3 v4 : Value} {T : TypeId} (h : w.heap[b]? = some (.cells #[v0, v1, v2, v3, v4] T (0, 0))) :
    w.cell? ⟨b, 0, none⟩ = some v0 ∧ w.cell? ⟨b, 1, none⟩ = some v1 ∧ w.cell? ⟨b, 2, none⟩ = some v2 ∧ w.cell? ⟨b, 3, none⟩ = some v3 ∧ w.cell? ⟨b, 4, none⟩ = some v4 :=
  ⟨by rw [cell_of_row w b 0 _ _ _ h]; rfl, by rw [cell_of_row w b 1 _ _ _ h]; rfl, by rw [cell_of_row w b 2 _ _ _ h]; rfl, by rw [cell_of_row w b 3 _ _ _ h]; rfl, by rw [cell_of_row w b 4 _ _ _ h]; rfl⟩

theorem two_fall_d {L : List Nat} {wq w : World} {d r room : Nat} {M N : List Fm} (n : Int) (hn : -9223372036854775808 ≤ n ∧ n ≤ 9223372036854775807) (h : Two L wq w d r room M N) (hfew : M.length ≤ 400000) :
    Calls Try.prog 19 #[.pointer (some ⟨d, 0, none⟩), .int .i64 n] w fun e w' => ∃ bb, e = .returned (.pointer (some ⟨bb, 0, none⟩)) ∧ Two L wq w' bb r room (mFall n M) N := by
  obtain ⟨h1, l, k, hd, hr, hl, hk⟩ := h
  refine (fall_calls n hn w hd (by omega)).mono ?_
  rintro e w' ⟨bb, l', rfl, hd', hb, hl'⟩
  refine ⟨bb, rfl, h1.trans (Turn.of_below hb []) (by simp), l', k, hd', hr.turn (Turn.of_below hb []) (by simp), fun i hi => ⟨.inr (Nat.le_trans h1.size (hl' i hi)), fun hm => ?_⟩, hk⟩
  have h2 := hr.lt i hm
  have h3 := hl' i hi
  omega

theorem two_fall_r {L : List Nat} {wq w : World} {d r room : Nat} {M N : List Fm} (n : Int) (hn : -9223372036854775808 ≤ n ∧ n ≤ 9223372036854775807) (h : Two L wq w d r room M N) (hfew : N.length ≤ 400000) (ht : tot N ≤ 1048576) :
    Calls Try.prog 20 #[.pointer (some ⟨r, 0, none⟩), .int .i64 n] w fun e w' => ∃ bb, e = .returned (.pointer (some ⟨bb, 0, none⟩)) ∧ Two L wq w' d bb room M (mFall n N) := by
  obtain ⟨h1, l, k, hd, hr, hl, hk⟩ := h
  refine (refFall_calls n hn w hr hfew ht).mono ?_
  rintro e w' ⟨bb, k', rfl, hr', hb, hk'⟩
  refine ⟨bb, rfl, h1.trans (Turn.of_below hb []) (by simp), l, k', hd.turn (Turn.of_below hb []) (by simp), hr', fun i hi => ⟨(hl i hi).1, fun hm => ?_⟩, fun i hi => .inr (Nat.le_trans h1.size (hk' i hi))⟩
  have h2 := hd.lt i hi
  have h3 := hk' i hm
  omega

/-- What became of both disks, and what is told. -/
def Did (wq : World) (room : Nat) (M : List Fm) (e : Ending) (w' : World) : Prop :=
  ∃ d' r' M', e = .returned (.tuple #[.pointer (some ⟨d', 0, none⟩), .pointer (some ⟨r', 0, none⟩), .bool true]) ∧ Two [] wq w' d' r' room M' M' ∧ M'.length ≤ M.length + 1

set_option maxHeartbeats 4000000 in
set_option maxRecDepth 100000 in
theorem do_calls {wq w : World} {d r room : Nat} {M : List Fm} (h : Two [] wq w d r room M M) (kind n : Int) (hn : -9223372036854775808 ≤ n ∧ n ≤ 9223372036854775807) (s1 s2 : List UInt8) (h1 : s1.length ≤ 9223372036854775807) (h2 : s2.length ≤ 9223372036854775807)
    (ao : Option Addr) (c : Nat) (l : List UInt8) (hl : Sl wq ao c l) (hfew : M.length ≤ 300000) :
    Calls Try.prog 17 #[.pointer (some ⟨d, 0, none⟩), .pointer (some ⟨r, 0, none⟩), .agg #[.int .i64 kind, .int .i64 n, .string ⟨s1.toArray⟩, .string ⟨s2.toArray⟩, .slice ao l.length c]] w (Did wq room M) := by
  have hlw := h.sl hl (by simp)
  obtain ⟨J, hJ, hTq, hJ2⟩ := h.rebase (Turn.alloc [] w (.cells #[.int .i64 kind, .int .i64 n, .string ⟨s1.toArray⟩, .string ⟨s2.toArray⟩, .slice ao l.length c] 32))
  have hblk := heap_alloc_new w (.cells #[.int .i64 kind, .int .i64 n, .string ⟨s1.toArray⟩, .string ⟨s2.toArray⟩, .slice ao l.length c] 32)
  have hls := hlw.turn (Turn.alloc [] w (.cells #[.int .i64 kind, .int .i64 n, .string ⟨s1.toArray⟩, .string ⟨s2.toArray⟩, .slice ao l.length c] 32)) (by simp)
  have CS := Lib.hid (fun x1 (t : Turn [] (w.alloc (.cells #[.int .i64 kind, .int .i64 n, .string ⟨s1.toArray⟩, .string ⟨s2.toArray⟩, .slice ao l.length c] 32)) x1) => short_fresh ao c 60 l.length l x1 (hls.turn t (by simp)) rfl (by omega))
  obtain ⟨F, hF⟩ : ∃ F, F = w.heap.size := ⟨_, rfl⟩
  rw [← hF] at hblk hJ
  have HF := Lib.hid hF
  have HZ := Lib.hid h.old.size
  have HJ := Lib.hid hJ
  have HTQ := Lib.hid hTq
  have H2 := Lib.hid hJ2
  have HB := Lib.hid hblk
  have HN := Lib.hid hn
  obtain ⟨d0, d1, d2, d3, d4⟩ := five_cells hblk
  have hFJ : F ∉ J := fun hm => Nat.lt_irrefl F (hJ F hm).1
  have C1 := Lib.hid (fun x => cut_its s1 14 x h1 (by omega))
  have C2 := Lib.hid (fun x => cut_its s2 14 x h2 (by omega))
  clear hJ hTq hJ2 hblk hlw hls hl h h1 h2 hn
  generalize l.length = nl at *
  go_enter Try.func17, Try.ntmps17
  go_wp2_with fail
  rw [← hF]
  clear hF
  generalize w.alloc _ = x1 at *
  refine Ph.start [10, 11, 12, 13, 14] (fun w' => w'.cell? ⟨F, 2, none⟩ = some (.string ⟨s1.toArray⟩) ∧ w'.cell? ⟨F, 3, none⟩ = some (.string ⟨s2.toArray⟩) ∧ w'.cell? ⟨F, 4, none⟩ = some (.slice ao nl c)) (by kernel_rfl) ⟨d2, d3, d4⟩ ?_
  intro hS
  refine Ph.take (i := 0) (d := some 11) (v := ?_) rfl (by rfl) (by kernel_rfl) (by kernel_rfl) (by kernel_rfl) (by kernel_rfl) (fun _ _ _ h => h) (by rfl) hS ?_ ?_
  rotate_left
  · intro x hx
    try dsimp only at hx
    go_simp
    try with_reducible rfl
  simp only [Act.put, List.setIfInBounds_toArray, List.set_cons_zero, List.set_cons_succ]
  refine Ph.take (i := 1) (d := some 12) (v := ?_) rfl (by rfl) (by kernel_rfl) (by kernel_rfl) (by kernel_rfl) (by kernel_rfl) (fun _ _ _ h => h) (by rfl) hS ?_ ?_
  rotate_left
  · intro x hx
    try dsimp only at hx
    go_simp
    try with_reducible rfl
  simp only [Act.put, List.setIfInBounds_toArray, List.set_cons_zero, List.set_cons_succ]
  refine Ph.take (i := 3) (d := some 14) (v := ?_) rfl (by rfl) (by kernel_rfl) (by kernel_rfl) (by kernel_rfl) (by kernel_rfl) (fun _ _ _ h => h) (by rfl) hS ?_ ?_
  rotate_left
  · intro x hx
    try dsimp only at hx
    go_simp
    try with_reducible rfl
  simp only [Act.put, List.setIfInBounds_toArray, List.set_cons_zero, List.set_cons_succ]
  refine Ph.take (i := 4) (d := some 15) (v := ?_) rfl (by rfl) (by kernel_rfl) (by kernel_rfl) (by kernel_rfl) (by kernel_rfl) (fun _ _ _ h => h) (by rfl) hS ?_ ?_
  rotate_left
  · intro x hx
    try dsimp only at hx
    go_simp
    try with_reducible rfl
  simp only [Act.put, List.setIfInBounds_toArray, List.set_cons_zero, List.set_cons_succ]
  refine Ph.take (i := 6) (d := some 17) (v := ?_) rfl (by rfl) (by kernel_rfl) (by kernel_rfl) (by kernel_rfl) (by kernel_rfl) (fun _ _ _ h => h) (by rfl) hS ?_ ?_
  rotate_left
  · intro x hx
    try dsimp only at hx
    go_simp
    try with_reducible rfl
  simp only [Act.put, List.setIfInBounds_toArray, List.set_cons_zero, List.set_cons_succ]
  refine Ph.take (i := 7) (d := some 18) (v := ?_) rfl (by rfl) (by kernel_rfl) (by kernel_rfl) (by kernel_rfl) (by kernel_rfl) (fun _ _ _ h => h) (by rfl) hS ?_ ?_
  rotate_left
  · intro x hx
    try dsimp only at hx
    go_simp
    try with_reducible rfl
  simp only [Act.put, List.setIfInBounds_toArray, List.set_cons_zero, List.set_cons_succ]
  refine Ph.one (i := 2) (by kernel_rfl) rfl ?_
  intro K hK
  rw [if_pos (by rfl)]
  go_simp
  refine (C1.out _).mono ?_
  rintro e w' ⟨n1, rfl, hn1, -, rfl⟩
  dsimp only
  refine hK _ _ hS (fun _ => ?_)
  clear hK K
  refine Ph.take (i := 9) (d := some 20) (v := ?_) rfl (by rfl) (by kernel_rfl) (by kernel_rfl) (by kernel_rfl) (by kernel_rfl) (fun _ _ _ h => h) (by rfl) hS ?_ ?_
  rotate_left
  · intro x hx
    try dsimp only at hx
    go_simp
    try with_reducible rfl
  simp only [Act.put, List.setIfInBounds_toArray, List.set_cons_zero, List.set_cons_succ]
  refine Ph.one (i := 5) (by kernel_rfl) rfl ?_
  intro K hK
  rw [if_pos (by rfl)]
  go_simp
  refine (C2.out _).mono ?_
  rintro e w' ⟨n2, rfl, hn2, -, rfl⟩
  dsimp only
  refine hK _ _ hS (fun _ => ?_)
  clear hK K
  refine Ph.one (i := 8) (by kernel_rfl) rfl ?_
  intro K hK
  rw [if_pos (by rfl)]
  go_simp
  refine (CS.out _ (Turn.drew [] _)).mono ?_
  rintro e x2 ⟨ao3, c3, l3, rfl, -, hl3, hs3, hb2, ha3⟩
  have t2 : Turn [] x1 x2 := (Turn.drew [] x1).trans (Turn.of_below hb2 []) (by simp)
  dsimp only
  refine hK _ _ ⟨t2.cell d2 (by simp), t2.cell d3 (by simp), t2.cell d4 (by simp)⟩ (fun _ => ?_)
  clear hK K
  have hF2 := t2.heap HB.out (by simp)
  have z2 : x2.frozen? ⟨F, 2, none⟩ = false := unfrozen_of hF2
  have z3 : x2.frozen? ⟨F, 3, none⟩ = false := unfrozen_of hF2
  have z4 : x2.frozen? ⟨F, 4, none⟩ = false := unfrozen_of hF2
  have m2 := t2.cell d2 (by simp)
  have m3 := t2.cell d3 (by simp)
  have m4 := t2.cell d4 (by simp)
  refine Ph.tardy (i := 10) (by kernel_rfl) (by kernel_rfl) rfl ?_
  intro K hK
  rw [if_pos (by rfl)]
  go_simp
  refine hK _ _ ?_
  clear hK K
  refine Ph.tardy (i := 11) (by kernel_rfl) (by kernel_rfl) rfl ?_
  intro K hK
  rw [if_pos (by rfl)]
  go_simp
  refine hK _ _ ?_
  clear hK K
  refine Ph.tardy (i := 12) (by kernel_rfl) (by kernel_rfl) rfl ?_
  intro K hK
  rw [if_pos (by rfl)]
  go_simp
  refine hK _ _ ?_
  clear hK K
  refine Ph.tardy (i := 13) (by kernel_rfl) (by kernel_rfl) rfl ?_
  intro K hK
  rw [if_pos (by rfl)]
  go_simp
  refine hK _ _ ?_
  clear hK K
  refine Ph.tardy (i := 14) (by kernel_rfl) (by kernel_rfl) rfl ?_
  intro K hK
  rw [if_pos (by rfl)]
  go_simp
  refine hK _ _ (Ph.done (by kernel_rfl) ?_ _)
  clear hK K
  have hx3 : (((x2.setCell ⟨F, 2, none⟩ (.string ⟨n1.toArray⟩)).setCell ⟨F, 3, none⟩ (.string ⟨n2.toArray⟩)).setCell ⟨F, 4, none⟩ (.slice ao3 l3.length c3)).heap[F]? = some (.cells #[.int .i64 kind, .int .i64 n, .string ⟨n1.toArray⟩, .string ⟨n2.toArray⟩, .slice ao3 l3.length c3] 32 (0, 0)) := block_set (block_set (block_set hF2 _) _) _
  have tS : Turn [F] x2 (((x2.setCell ⟨F, 2, none⟩ (.string ⟨n1.toArray⟩)).setCell ⟨F, 3, none⟩ (.string ⟨n2.toArray⟩)).setCell ⟨F, 4, none⟩ (.slice ao3 l3.length c3)) :=
    ((Turn.setCell x2 (by simp) _).trans (Turn.setCell (l := [F]) _ (by simp) _) (by simp)).trans (Turn.setCell (l := [F]) _ (by simp) _) (by simp)
  generalize ((x2.setCell ⟨F, 2, none⟩ (.string ⟨n1.toArray⟩)).setCell ⟨F, 3, none⟩ (.string ⟨n2.toArray⟩)).setCell ⟨F, 4, none⟩ (.slice ao3 l3.length c3) = x3 at hx3 tS ⊢
  have t3 : Turn [F] x1 x3 := (t2.mono (by simp)).trans tS (by simp)
  have hs4 := hs3.turn tS (fun A hA _ hm => by
    have h1 := ha3 A hA
    have h2 : A.block = F := by simpa using hm
    have h3 := lt_of_heap HB.out
    have h4 : x1.drew.heap.size = x1.heap.size := rfl
    omega)
  have haJ : ∀ A, ao3 = some A → l3 ≠ [] → A.block ∉ J := by
    intro A hA _ hm
    have h1 := ha3 A hA
    have h2 := (HJ.out _ hm).1
    have h3 := lt_of_heap HB.out
    have h4 : x1.drew.heap.size = x1.heap.size := rfl
    omega
  have h3 := H2.out.far t3 hFJ
  have hq3 : Turn [] wq x3 := HTQ.out.trans t3 (fun i hi => .inr (by
    have h1 : i = F := by simpa using hi
    have h2 : F = w.heap.size := HF.out
    have h3 : wq.heap.size ≤ w.heap.size := HZ.out
    omega))
  have hnd := h3.nodup
  obtain ⟨d0, d1, d2, d3, d4⟩ := five_cells hx3
  have H3 := Lib.hid h3
  have HQ3 := Lib.hid hq3
  have HS4 := Lib.hid hs4
  have HAJ := Lib.hid haJ
  have HND := Lib.hid hnd
  have HBK := Lib.hid (show ∀ (w' : World) (d' r' : Nat) (N : List Fm), Two J x3 w' d' r' room N N → N.length ≤ M.length + 1 → Did wq room M (.returned (.tuple #[.pointer (some ⟨d', 0, none⟩), .pointer (some ⟨r', 0, none⟩), .bool true])) w' from fun _ _ _ _ hT hN => ⟨_, _, _, rfl, hT.back hq3 (fun i hi => (HJ.out i hi).2), hN⟩)
  clear hx3 tS t2 t3 hs3 hs4 haJ h3 hq3 hnd hF2 z2 z3 z4 m2 m3 m4 hb2 ha3 HB H2 HTQ CS C1 C2 HF HZ
  have hn1' : n1.length ≤ 9223372036854775807 := by omega
  have hn2' : n2.length ≤ 9223372036854775807 := by omega
  have HN1 := Lib.hid hn1'
  have HN2 := Lib.hid hn2'
  clear hn1 hn2 hn1' hn2'
  by_cases k0 : kind = 0
  · subst k0
    go_wp2_with fail
    go_region_held3 (fun w' => w'.cell? ⟨F, 2, none⟩ = some (.string ⟨n1.toArray⟩) ∧ w'.cell? ⟨F, 4, none⟩ = some (.slice ao3 l3.length c3))
      (go_keep)
      (first
        | (go_at_call 21; (first | ((with_reducible refine (two_append_d HR.out HN1.out HS4.out HAJ.out).mono ?_); rintro e w' ⟨rfl, hT⟩) | ((with_reducible refine (two_append_d (H3.out.turn (Turn.drew [] x3)) HN1.out HS4.out HAJ.out).mono ?_); rintro e w' ⟨rfl, hT⟩)); have q2 := hT.old.cell d2 hFJ; have q4 := hT.old.cell d4 hFJ; have HD := Lib.hid hT; clear hT)
        | (go_at_call 24; (first | ((with_reducible refine (two_append_r HD.out HND.out (by omega) HN1.out HS4.out HAJ.out).mono ?_); rintro e w' ⟨rfl, hT⟩) | ((with_reducible refine (two_append_r (H3.out.turn (Turn.drew [] x3)) HND.out (by omega) HN1.out HS4.out HAJ.out).mono ?_); rintro e w' ⟨rfl, hT⟩)); have q2 := hT.old.cell d2 hFJ; have q4 := hT.old.cell d4 hFJ; have HR := Lib.hid hT; clear hT))
    all_goals go_wp2
    all_goals go_ret3
    all_goals exact HBK.out _ _ _ _ HR.out (appM_length _ _ _ _)
  · have e0 : (kind == 0) = false := by simpa using k0
    have e0' : decide (kind = 0) = false := by simpa using k0
    by_cases k1 : kind = 1
    · subst k1
      go_wp2_with fail
      go_region_held3 (fun w' => w'.cell? ⟨F, 2, none⟩ = some (.string ⟨n1.toArray⟩))
        (go_keep)
        (first
          | (go_at_call 29; ((with_reducible refine (two_sync_d (H3.out.turn (Turn.drew [] x3)) HN1.out).mono ?_); rintro e w' ⟨rfl, hT⟩); have q2 := hT.old.cell d2 hFJ; have HD := Lib.hid hT; clear hT)
          | (go_at_call 34; ((with_reducible refine (two_sync_r HD.out HND.out).mono ?_); rintro e w' ⟨rfl, hT⟩); have q2 := hT.old.cell d2 hFJ; have HR := Lib.hid hT; clear hT))
      all_goals go_wp2
      all_goals go_ret3
      all_goals exact HBK.out _ _ _ _ HR.out (by show (mUp _ _ _).length ≤ _; rw [mUp_length]; omega)
    · have e1 : (kind == 1) = false := by simpa using k1
      have e1' : decide (kind = 1) = false := by simpa using k1
      by_cases k2 : kind = 2
      · subst k2
        go_wp2_with fail
        go_region_held3 (fun w' => w'.cell? ⟨F, 2, none⟩ = some (.string ⟨n1.toArray⟩) ∧ w'.cell? ⟨F, 3, none⟩ = some (.string ⟨n2.toArray⟩))
          (go_keep)
          (first
            | (go_at_call 25; ((with_reducible refine (two_rename_d (H3.out.turn (Turn.drew [] x3)) HN1.out HN2.out).mono ?_); rintro e w' ⟨rfl, hT⟩); have q2 := hT.old.cell d2 hFJ; have q3 := hT.old.cell d3 hFJ; have HD := Lib.hid hT; clear hT)
            | (go_at_call 26; ((with_reducible refine (two_rename_r HD.out HND.out (by omega) HN2.out).mono ?_); rintro e w' ⟨rfl, hT⟩); have q2 := hT.old.cell d2 hFJ; have q3 := hT.old.cell d3 hFJ; have HR := Lib.hid hT; clear hT))
        all_goals go_wp2
        all_goals go_ret3
        all_goals exact HBK.out _ _ _ _ HR.out (Nat.le_succ_of_le (renM_length _ _ _))
      · have e2 : (kind == 2) = false := by simpa using k2
        have e2' : decide (kind = 2) = false := by simpa using k2
        by_cases k3 : kind = 3
        · subst k3
          go_wp2_with fail
          go_region_held3 (fun w' => w'.cell? ⟨F, 2, none⟩ = some (.string ⟨n1.toArray⟩))
            (go_keep)
            (first
              | (go_at_call 30; ((with_reducible refine (two_delete_d (H3.out.turn (Turn.drew [] x3)) HN1.out).mono ?_); rintro e w' ⟨rfl, hT⟩); have q2 := hT.old.cell d2 hFJ; have HD := Lib.hid hT; clear hT)
              | (go_at_call 35; ((with_reducible refine (two_delete_r HD.out HND.out (by omega)).mono ?_); rintro e w' ⟨rfl, hT⟩); have q2 := hT.old.cell d2 hFJ; have HR := Lib.hid hT; clear hT))
          all_goals go_wp2
          all_goals go_ret3
          all_goals exact HBK.out _ _ _ _ HR.out (Nat.le_succ_of_le (mDel_length _ _))
        · have e3 : (kind == 3) = false := by simpa using k3
          have e3' : decide (kind = 3) = false := by simpa using k3
          have HTOT := Lib.hid H3.out.total
          go_wp2_with fail
          go_region_held3 (fun w' => w'.cell? ⟨F, 1, none⟩ = some (.int .i64 n))
            (go_keep)
            (first
              | (go_at_call 19; ((with_reducible refine (two_fall_d n HN.out (H3.out.turn (Turn.drew [] x3)) (by omega)).mono ?_); rintro e w' ⟨bd, rfl, hT⟩); have q2 := hT.old.cell d1 hFJ; have HD := Lib.hid hT; clear hT)
              | (go_at_call 20; ((with_reducible refine (two_fall_r n HN.out HD.out (by omega) (by have := HTOT.out; omega)).mono ?_); rintro e w' ⟨br, rfl, hT⟩); have q2 := hT.old.cell d1 hFJ; have HR := Lib.hid hT; clear hT))
          all_goals go_wp2
          all_goals go_ret3
          all_goals exact HBK.out _ _ _ _ HR.out (Nat.le_succ_of_le (mFall_length _ _))

end Go.Proofs.Ytlcilbbgfilefaa
