/-
  The walk of the reference's Rename.
-/
import Derived.Test.YtlcilbbgfilefaaRefDel
namespace Go.Proofs.Ytlcilbbgfilefaa
open Go.RowKit

/-- A file is another; the rest stays. -/
theorem RefIs.stamp {w w' : World} {b room g N cap : Nat} {A B : List Rf} {x y : Rf} (h : RefIs w b room (.slice (some ⟨g, 0, none⟩) N cap) (A ++ x :: B)) (t : Turn [g] w w')
    (hrow : w'.ownsRow 0 63 4 (.slice (some ⟨g, 0, none⟩) N cap) (A ++ x :: B).length (rowCells (A ++ y :: B)))
    (hs : Sl w' y.ao y.c y.f.b) (hf : ∀ A', y.ao = some A' → y.f.b ≠ [] → A'.block ≠ b ∧ A'.block ≠ g) (hsure : y.f.sure ≤ y.f.b.length) (htot : tot ((A ++ y :: B).map Rf.f) ≤ 1048576) :
    RefIs w' b room (.slice (some ⟨g, 0, none⟩) N cap) (A ++ y :: B) := by
  have hgb : g ≠ b := by
    have := h.apart
    simpa [Value.ownBlock] using this
  have hlen : (A ++ y :: B).length = (A ++ x :: B).length := by simp
  have hmem : ∀ z ∈ A ++ y :: B, z ∈ A ++ x :: B ∨ z = y := by
    intro z hz
    simp at hz ⊢
    grind
  refine ⟨t.heap h.head (by simpa using fun e => hgb e.symm), by rw [hlen]; exact hrow, ?_, h.apart, ?_, ?_, htot⟩
  · intro z hz
    rcases hmem z hz with h1 | rfl
    · refine (h.sl z h1).turn t (fun A' hA' hne hm => ?_)
      have := (h.far z h1 A' hA' hne).2
      simp at hm
      exact this (by simp [Value.ownBlock, hm])
    · exact hs
  · intro z hz
    rcases hmem z hz with h1 | rfl
    · exact h.far z h1
    · intro A' hA' hne
      refine ⟨(hf A' hA' hne).1, fun e => (hf A' hA' hne).2 ?_⟩
      simpa [Value.ownBlock] using e.symm
  · intro z hz
    rcases hmem z hz with h1 | rfl
    · exact h.sure z h1
    · exact hsure

theorem rowCells_set0 (A B : List Rf) (l : List Value) (hl : l.length = 4) (u : Value) : (rowCells A ++ (l ++ rowCells B)).set (A.length * 4) u = rowCells A ++ (l.set 0 u ++ rowCells B) := rowCells_set A B l hl 0 (by omega) u

/-- What stands where a file is, and what stands there once it is renamed. -/
theorem RefM.stamped {w : World} {b room : Nat} {l : List Nat} {M1 M2 : List Fm} {f : Fm} (h : RefM w b room l (M1 ++ f :: M2)) :
    ∃ g cap N u0 u3, w.cell? ⟨b, 1, none⟩ = some (.slice (some ⟨g, 0, none⟩) N cap) ∧ M1.length < N ∧ N ≤ cap ∧ cap ≤ 9223372036854775807 ∧
      w.cell? ⟨g, M1.length * 4, none⟩ = some (.string u0) ∧ w.cell? ⟨g, M1.length * 4 + 3, none⟩ = some (.bool u3) ∧ w.frozen? ⟨g, M1.length * 4, none⟩ = false ∧ w.frozen? ⟨g, M1.length * 4 + 3, none⟩ = false ∧
      (∀ n : List UInt8, RefM ((w.setCell ⟨g, M1.length * 4, none⟩ (.string ⟨n.toArray⟩)).setCell ⟨g, M1.length * 4 + 3, none⟩ (.bool true)).drew b room l (M1 ++ renamed f n :: M2)) ∧
      (∀ n : List UInt8, Turn l w ((w.setCell ⟨g, M1.length * 4, none⟩ (.string ⟨n.toArray⟩)).setCell ⟨g, M1.length * 4 + 3, none⟩ (.bool true)).drew) := by
  obtain ⟨v, A, x, B, hd, rfl, rfl, rfl, rfl⟩ := h.split
  obtain ⟨ao, cap, hv, hao⟩ := hd.form
  obtain ⟨g, rfl⟩ := hao (by simp)
  subst hv
  have hAl : A.length < (A ++ x :: B).length := by simp
  have hx : (A ++ x :: B)[A.length]'hAl = x := by simp
  obtain ⟨d0, d1, d2, d3⟩ := hd.cells hAl
  rw [hx] at d0 d3
  obtain ⟨-, c1, -, f1⟩ := two_cells hd.head
  have hfz : ∀ i, w.frozen? ⟨g, i, none⟩ = false := by
    intro i
    rcases hd.row.2 with ⟨h0, _⟩ | ⟨g', cap', cur, hv, _, hg, _⟩
    · cases h0
    · cases hv
      exact unfrozen_of hg
  have hcp : (A ++ x :: B).length ≤ cap ∧ cap ≤ 9223372036854775807 := by
    rcases hd.row.2 with ⟨h0, _⟩ | ⟨g', cap', cur, hv, _, _, h1, h2, _⟩
    · cases h0
    · cases hv
      exact ⟨h1, by unfold maxLen at h2; omega⟩
  have t : ∀ n : List UInt8, Turn [g] w ((w.setCell ⟨g, A.length * 4, none⟩ (.string ⟨n.toArray⟩)).setCell ⟨g, A.length * 4 + 3, none⟩ (.bool true)).drew := fun n =>
    ((Turn.setCell w (by simp) _).trans (Turn.setCell (l := [g]) _ (by simp) _) (by simp)).trans (Turn.drew [] _) (by simp)
  have tl : ∀ n : List UInt8, Turn (rblk b (.slice (some ⟨g, 0, none⟩) (A ++ x :: B).length cap) (A ++ x :: B)) w ((w.setCell ⟨g, A.length * 4, none⟩ (.string ⟨n.toArray⟩)).setCell ⟨g, A.length * 4 + 3, none⟩ (.bool true)).drew := fun n =>
    (t n).mono (fun i hi => .inl (by simp at hi; simp [rblk, Value.ownBlock, hi]))
  rw [List.length_map]
  refine ⟨g, cap, _, _, _, c1, hAl, hcp.1, hcp.2, d0, d3, hfz _, hfz _, fun n => ?_, tl⟩
  have hrow : (((w.setCell ⟨g, A.length * 4, none⟩ (.string ⟨n.toArray⟩)).setCell ⟨g, A.length * 4 + 3, none⟩ (.bool true)).drew).ownsRow 0 63 4 (.slice (some ⟨g, 0, none⟩) (A ++ x :: B).length cap) (A ++ x :: B).length (rowCells (A ++ ⟨renamed x.f n, x.ao, x.c⟩ :: B)) := by
    have hr := hd.row
    rw [rowCells_split] at hr
    have h1 := ownsRow_set hr (A.length * 4) (.string ⟨n.toArray⟩)
    rw [rowCells_set0 A B _ rfl] at h1
    have h2 := ownsRow_set h1 (A.length * 4 + 3) (.bool true)
    rw [rowCells_set A B _ rfl 3 (by omega)] at h2
    rw [rowCells_split]
    exact h2
  have hfar := hd.far
  refine ⟨_, A ++ ⟨renamed x.f n, x.ao, x.c⟩ :: B, hd.stamp (t n) hrow ?_ ?_ (hd.sure x (by simp)) ?_, by simp, rblk_same b _ A B x (renamed x.f n) rfl⟩
  · refine (hd.sl x (by simp)).turn (t n) (fun A' hA' hne hm => ?_)
    have := (hfar x (by simp) A' hA' hne).2
    simp at hm
    exact this (by simp [Value.ownBlock, hm])
  · intro A' hA' hne
    have := hfar x (by simp) A' hA' hne
    simp [Value.ownBlock] at this
    exact ⟨this.1, fun e => this.2 e.symm⟩
  · have := hd.total
    simp [tot, renamed] at this ⊢
    exact this

set_option maxHeartbeats 2000000 in
set_option maxRecDepth 100000 in
/-- There is none of the new name. -/
theorem refRename_free {b room : Nat} {l : List Nat} {M1 M2 : List Fm} {f : Fm} {n : List UInt8} (w : World) (h : RefM w b room l (M1 ++ f :: M2)) (hnd : ((M1 ++ f :: M2).map Fm.name).Nodup) (hok : okName n = true) (hne : f.name ≠ n) (hn : n ∉ (M1 ++ f :: M2).map Fm.name) :
    Calls Try.prog 26 #[.pointer (some ⟨b, 0, none⟩), .string ⟨f.name.toArray⟩, .string ⟨n.toArray⟩] w fun e w' => e = .returned (.int .i64 0) ∧ Turn l w w' ∧ RefM w' b room l (M1 ++ renamed f n :: M2) := by
  have hlen := okName_len hok
  have CM := Lib.hid (may_calls n w (by omega))
  have CA := Lib.hid (refAt_some w h hnd)
  have CN := Lib.hid (refAt_none w h hn)
  obtain ⟨g, cap, N, u0, u3, c1, hlt, hN, hcap, d0, d3, z0, z3, hD, hT⟩ := h.stamped
  have HD := Lib.hid hD
  have HT := Lib.hid hT
  rw [hok] at CM
  have hf : (f.name == n) = false := by simpa using hne
  clear h hnd hok hne hn hD hT hlen
  obtain ⟨k, hkk⟩ : ∃ k, k = M1.length := ⟨_, rfl⟩
  rw [← hkk] at CA hlt d0 d3 z0 z3 HD HT
  clear hkk
  have hlt2 : (k : Int) < (N : Int) := by omega
  generalize f.name = s at *
  go_enter Try.func26, Try.ntmps26
  go_wp2_with fail
  refine CM.out.mono ?_
  rintro e w' ⟨rfl, rfl⟩
  go_wp2_with fail
  refine CA.out.mono ?_
  rintro e w' ⟨rfl, rfl⟩
  go_wp2_with fail
  refine CN.out.mono ?_
  rintro e w' ⟨rfl, rfl⟩
  go_wp2_with fail
  refine CA.out.mono ?_
  rintro e w' ⟨rfl, rfl⟩
  go_wp2_with fail
  go_region
  go_wp2
  go_ret
  exact ⟨rfl, HT.out n, HD.out n⟩

set_option maxHeartbeats 2000000 in
set_option maxRecDepth 100000 in
/-- There is one of the new name: it is gone. -/
theorem refRename_over {b room : Nat} {l : List Nat} {M N1 N2 M1 M2 : List Fm} {f q : Fm} (w : World) (h : RefM w b room l M) (hnd : (M.map Fm.name).Nodup) (hfew : M.length ≤ 400000) (hq : M = N1 ++ q :: N2) (hf : N1 ++ N2 = M1 ++ f :: M2) (hok : okName q.name = true) (hne : f.name ≠ q.name) :
    Calls Try.prog 26 #[.pointer (some ⟨b, 0, none⟩), .string ⟨f.name.toArray⟩, .string ⟨q.name.toArray⟩] w fun e w' => e = .returned (.int .i64 0) ∧ Turn l w w' ∧ ∃ l', RefM w' b room l' (M1 ++ renamed f q.name :: M2) ∧ ∀ i ∈ l', i ∈ l ∨ w.heap.size ≤ i := by
  subst hq
  have hlen := okName_len hok
  have CM := Lib.hid (may_calls q.name w (by omega))
  have CA : ∃ j : Nat, j ≤ 400000 ∧ Calls Try.prog 37 #[.pointer (some ⟨b, 0, none⟩), .string ⟨f.name.toArray⟩] w fun e w' => e = .returned (.int .i64 (j : Nat)) ∧ w = w' := by
    have hm : f ∈ N1 ++ q :: N2 := by
      have : f ∈ N1 ++ N2 := by rw [hf]; simp
      simp at this ⊢
      grind
    obtain ⟨P1, P2, hP⟩ := List.append_of_mem hm
    rw [hP] at h hnd hfew
    exact ⟨P1.length, by simp at hfew; omega, refAt_some w h hnd⟩
  obtain ⟨j, hj, CA⟩ := CA
  have CA := Lib.hid CA
  have CQ := Lib.hid (refAt_some w h hnd)
  have CG := Lib.hid (refGone_calls w h hfew)
  have hk1 : N1.length ≤ 400000 := by simp at hfew; omega
  have hnd2 : ((M1 ++ f :: M2).map Fm.name).Nodup := by
    rw [← hf]
    refine hnd.sublist (List.Sublist.map _ ?_)
    exact List.Sublist.append (List.Sublist.refl _) (List.sublist_cons_self _ _)
  have HND := Lib.hid hnd2
  rw [hf] at CG
  rw [hok] at CM
  have hfn : (f.name == q.name) = false := by simpa using hne
  clear h hnd hok hne hlen hfew hnd2 hf
  obtain ⟨k, hkk⟩ : ∃ k, k = N1.length := ⟨_, rfl⟩
  rw [← hkk] at CQ CG hk1
  clear hkk
  generalize q.name = n at *
  obtain ⟨s, hs⟩ : ∃ s, s = f.name := ⟨_, rfl⟩
  rw [← hs] at CA hfn ⊢
  have HSN := Lib.hid hs
  clear hs
  go_enter Try.func26, Try.ntmps26
  go_wp2_with fail
  refine CM.out.mono ?_
  rintro e w' ⟨rfl, rfl⟩
  go_wp2_with fail
  refine CA.out.mono ?_
  rintro e w' ⟨rfl, rfl⟩
  go_wp2_with fail
  refine CQ.out.mono ?_
  rintro e w' ⟨rfl, rfl⟩
  go_wp2_with fail
  refine CG.out.mono ?_
  rintro e w1 ⟨rfl, ht1, l1, h1, hl1⟩
  have CA1 := Lib.hid (refAt_some w1 h1 HND.out)
  obtain ⟨g, cap, N, u0, u3, c1, hlt, hN, hcap, d0, d3, z0, z3, hD, hT⟩ := h1.stamped
  have HD := Lib.hid hD
  have HT := Lib.hid hT
  have HT1 := Lib.hid ht1
  have HL1 := Lib.hid hl1
  rw [← HSN.out] at CA1
  clear hD hT ht1 hl1 h1
  obtain ⟨i, hii⟩ : ∃ i, i = M1.length := ⟨_, rfl⟩
  rw [← hii] at CA1 hlt d0 d3 z0 z3 HD HT
  clear hii
  have hlt2 : (i : Int) < (N : Int) := by omega
  go_wp2_with fail
  refine CA1.out.mono ?_
  rintro e w' ⟨rfl, rfl⟩
  go_wp2_with fail
  go_region
  go_wp2
  go_ret
  exact ⟨rfl, HT1.out.trans (HT.out n) HL1.out, l1, HD.out n, HL1.out⟩

set_option maxHeartbeats 400000 in
theorem refRename_form {b : Nat} {s n : List UInt8} (w : World) (hn : n.length ≤ 9223372036854775807) (hok : okName n = false) :
    Calls Try.prog 26 #[.pointer (some ⟨b, 0, none⟩), .string ⟨s.toArray⟩, .string ⟨n.toArray⟩] w fun e w' => e = .returned (.int .i64 1) ∧ w = w' := by
  have CM := Lib.hid (may_calls n w hn)
  rw [hok] at CM
  clear hok
  go_enter Try.func26, Try.ntmps26
  go_wp2_with fail
  refine CM.out.mono ?_
  rintro e w' ⟨rfl, rfl⟩
  go_wp2
  go_ret
  exact ⟨rfl, rfl⟩

set_option maxHeartbeats 400000 in
theorem refRename_none {b room : Nat} {l : List Nat} {M : List Fm} {s n : List UInt8} (w : World) (h : RefM w b room l M) (hok : okName n = true) (hs : s ∉ M.map Fm.name) :
    Calls Try.prog 26 #[.pointer (some ⟨b, 0, none⟩), .string ⟨s.toArray⟩, .string ⟨n.toArray⟩] w fun e w' => e = .returned (.int .i64 6) ∧ w = w' := by
  have hlen := okName_len hok
  have CM := Lib.hid (may_calls n w (by omega))
  have CA := Lib.hid (refAt_none w h hs)
  rw [hok] at CM
  clear hok h hs hlen
  go_enter Try.func26, Try.ntmps26
  go_wp2_with fail
  refine CM.out.mono ?_
  rintro e w' ⟨rfl, rfl⟩
  go_wp2_with fail
  refine CA.out.mono ?_
  rintro e w' ⟨rfl, rfl⟩
  go_wp2
  go_ret
  exact ⟨rfl, rfl⟩

set_option maxHeartbeats 400000 in
theorem refRename_same {b room : Nat} {l : List Nat} {M1 M2 : List Fm} {f : Fm} (w : World) (h : RefM w b room l (M1 ++ f :: M2)) (hnd : ((M1 ++ f :: M2).map Fm.name).Nodup) (hfew : (M1 ++ f :: M2).length ≤ 400000) (hok : okName f.name = true) :
    Calls Try.prog 26 #[.pointer (some ⟨b, 0, none⟩), .string ⟨f.name.toArray⟩, .string ⟨f.name.toArray⟩] w fun e w' => e = .returned (.int .i64 0) ∧ w = w' := by
  have hlen := okName_len hok
  have CM := Lib.hid (may_calls f.name w (by omega))
  have CA := Lib.hid (refAt_some w h hnd)
  have hk : M1.length ≤ 400000 := by simp at hfew; omega
  rw [hok] at CM
  clear hok h hnd hlen hfew
  obtain ⟨k, hkk⟩ : ∃ k, k = M1.length := ⟨_, rfl⟩
  rw [← hkk] at CA hk
  clear hkk
  generalize f.name = n at *
  go_enter Try.func26, Try.ntmps26
  go_wp2_with fail
  refine CM.out.mono ?_
  rintro e w' ⟨rfl, rfl⟩
  go_wp2_with fail
  refine CA.out.mono ?_
  rintro e w' ⟨rfl, rfl⟩
  go_wp2
  go_ret
  exact ⟨rfl, rfl⟩

theorem refRename_fn {b room : Nat} {l : List Nat} {M : List Fm} {s n : List UInt8} (w : World) (h : RefM w b room l M) (hnd : (M.map Fm.name).Nodup) (hfew : M.length ≤ 400000) (hn : n.length ≤ 9223372036854775807) :
    Calls Try.prog 26 #[.pointer (some ⟨b, 0, none⟩), .string ⟨s.toArray⟩, .string ⟨n.toArray⟩] w fun e w' =>
      e = .returned (.int .i64 (renE M s n)) ∧ Turn l w w' ∧ ∃ l', RefM w' b room l' (renM M s n) ∧ ∀ i ∈ l', i ∈ l ∨ w.heap.size ≤ i := by
  unfold renE renM
  by_cases hok : okName n = true
  · rw [if_pos hok]
    by_cases hh : hasF M s = true
    · rw [if_pos hh]
      by_cases hne : s = n
      · rw [if_neg (by simp [hne])]
        subst hne
        obtain ⟨A, g, B, rfl, rfl⟩ := hasF_split hh
        refine (refRename_same w h hnd hfew hok).mono ?_
        rintro e w' ⟨rfl, rfl⟩
        exact ⟨rfl, Turn.refl _ _, l, h, fun i hi => .inl hi⟩
      · rw [if_pos ⟨hok, hh, hne⟩]
        obtain ⟨A, g, B, hM, rfl⟩ := hasF_split (mDel_has hh hne)
        have hnd2 := mDel_nodup n hnd
        rw [hM] at hnd2 ⊢
        rw [mUp_split _ hnd2]
        by_cases ht : hasF M n = true
        · obtain ⟨N1, q, N2, rfl, rfl⟩ := hasF_split ht
          rw [mDel_split hnd] at hM
          exact refRename_over w h hnd hfew rfl hM hok hne
        · rw [mDel_not (hasF_not (by simpa using ht))] at hM
          subst hM
          refine (refRename_free w h hnd hok hne (hasF_not (by simpa using ht))).mono ?_
          rintro e w' ⟨rfl, ht, hd⟩
          exact ⟨rfl, ht, l, hd, fun i hi => .inl hi⟩
    · rw [if_neg hh, if_neg (by simp [hh])]
      refine (refRename_none w h hok (hasF_not (by simpa using hh))).mono ?_
      rintro e w' ⟨rfl, rfl⟩
      exact ⟨rfl, Turn.refl _ _, l, h, fun i hi => .inl hi⟩
  · rw [if_neg hok, if_neg (by simp [hok])]
    refine (refRename_form w hn (by simpa using hok)).mono ?_
    rintro e w' ⟨rfl, rfl⟩
    exact ⟨rfl, Turn.refl _ _, l, h, fun i hi => .inl hi⟩

end Go.Proofs.Ytlcilbbgfilefaa
