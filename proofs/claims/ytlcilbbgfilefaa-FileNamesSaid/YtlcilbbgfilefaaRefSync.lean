/-
  The walk of the reference's Sync.
-/
import Derived.Test.YtlcilbbgfilefaaRefReads
import Derived.RegionTactic
import Derived.ChangeAlike
namespace Go.Proofs.Ytlcilbbgfilefaa
open Go.RowKit

/-- One cell of a row of the call's own is written. -/
theorem ownsRow_set {w : World} {e : TypeId} {size g n cap : Nat} {xs : List Value} (h : w.ownsRow 0 e size (.slice (some ⟨g, 0, none⟩) n cap) n xs) (i : Nat) (u : Value) :
    (w.setCell ⟨g, i, none⟩ u).ownsRow 0 e size (.slice (some ⟨g, 0, none⟩) n cap) n (xs.set i u) := by
  refine ⟨by rw [List.length_set]; exact h.1, ?_⟩
  rcases h.2 with ⟨h0, _⟩ | ⟨g', cap', cur, hv, hB, hg, h1, h2, h3, h4⟩
  · cases h0
  · cases hv
    refine .inr ⟨g, cap, cur.setIfInBounds i u, rfl, hB, block_set hg u, h1, h2, by simpa using h3, ?_⟩
    rw [← h4, Array.toList_setIfInBounds, List.take_set]

theorem rowCells_split (A B : List Rf) (x : Rf) : rowCells (A ++ x :: B) = rowCells A ++ (rfCells x ++ rowCells B) := by simp [rowCells]

theorem rowCells_set (A B : List Rf) (l : List Value) (hl : l.length = 4) (j : Nat) (hj : j < 4) (u : Value) : (rowCells A ++ (l ++ rowCells B)).set (A.length * 4 + j) u = rowCells A ++ (l.set j u ++ rowCells B) := by
  rw [List.set_append_right _ _ (by rw [rowCells_length]; omega), rowCells_length, Nat.add_sub_cancel_left, List.set_append_left _ _ (by omega)]

set_option maxHeartbeats 2000000 in
set_option maxRecDepth 100000 in
theorem refSync_raw {b room : Nat} {v : Value} {A B : List Rf} {x : Rf} (w : World) (h : RefIs w b room v (A ++ x :: B)) (hnd : ((A ++ x :: B).map (fun x => x.f.name)).Nodup) :
    Calls Try.prog 34 #[.pointer (some ⟨b, 0, none⟩), .string ⟨x.f.name.toArray⟩] w fun e w' => e = .returned (.int .i64 0) ∧ RefIs w' b room v (A ++ ⟨synced x.f, x.ao, x.c⟩ :: B) ∧ Turn (rblk b v (A ++ x :: B)) w w' := by
  obtain ⟨ao, cap, hv, hao⟩ := h.form
  obtain ⟨g, rfl⟩ := hao (by simp)
  subst hv
  have hAl : A.length < (A ++ x :: B).length := by simp
  have hx : (A ++ x :: B)[A.length]'hAl = x := by simp
  obtain ⟨d0, d1, d2, d3⟩ := h.cells hAl
  rw [hx] at d0 d1 d2 d3
  obtain ⟨-, c1, -, f1⟩ := two_cells h.head
  have hgb : g ≠ b := by
    have := h.apart
    simpa [Value.ownBlock] using this
  have hfz : ∀ i, w.frozen? ⟨g, i, none⟩ = false := by
    intro i
    rcases h.row.2 with ⟨h0, _⟩ | ⟨g', cap', cur, hv, _, hg, _⟩
    · cases h0
    · cases hv
      exact unfrozen_of hg
  have z2 := hfz (A.length * 4 + 2)
  have z3 := hfz (A.length * 4 + 3)
  have hcp : (A ++ x :: B).length ≤ cap ∧ cap ≤ 9223372036854775807 := by
    rcases h.row.2 with ⟨h0, _⟩ | ⟨g', cap', cur, hv, _, _, h1, h2, _⟩
    · cases h0
    · cases hv
      exact ⟨h1, by unfold maxLen at h2; omega⟩
  obtain ⟨N, hN⟩ : ∃ N, N = (A ++ x :: B).length := ⟨_, rfl⟩
  obtain ⟨k, hk⟩ : ∃ k, k = A.length := ⟨_, rfl⟩
  rw [← hN] at c1 hcp hAl
  have CAT := Lib.hid (at_some w h hnd)
  rw [← hk] at d0 d1 d2 d3 z2 z3 hAl CAT
  obtain ⟨nb, hnb⟩ : ∃ nb, nb = x.f.b.length := ⟨_, rfl⟩
  rw [← hnb] at d1
  have H := Lib.hid h
  have HN := Lib.hid hN
  have HK := Lib.hid hk
  have HNB := Lib.hid hnb
  clear h hnd hN hk hnb hfz hx
  have hlt : (k : Int) < (N : Int) := by omega
  go_enter Try.func34, Try.ntmps34
  go_wp2_with fail
  refine CAT.out.mono ?_
  rintro e w' ⟨rfl, rfl⟩
  go_wp2_with fail
  go_region
  go_wp2
  go_ret
  have hd := H.out
  have t : Turn [g] w ((w.setCell ⟨g, k * 4 + 2, none⟩ (.int .i64 (nb : Int))).setCell ⟨g, k * 4 + 3, none⟩ (.bool true)).drew :=
    ((Turn.setCell w (by simp) _).trans (Turn.setCell (l := [g]) _ (by simp) _) (by simp)).trans (Turn.drew [] _) (by simp)
  have hrow : ((w.setCell ⟨g, k * 4 + 2, none⟩ (.int .i64 (nb : Int))).setCell ⟨g, k * 4 + 3, none⟩ (.bool true)).ownsRow 0 63 4 (.slice (some ⟨g, 0, none⟩) (A ++ x :: B).length cap) (A ++ x :: B).length (rowCells (A ++ ⟨synced x.f, x.ao, x.c⟩ :: B)) := by
    have hr := hd.row
    rw [rowCells_split] at hr
    have h1 := ownsRow_set hr (A.length * 4 + 2) (.int .i64 (nb : Int))
    rw [rowCells_set A B _ rfl 2 (by omega)] at h1
    have h2 := ownsRow_set h1 (A.length * 4 + 3) (.bool true)
    rw [rowCells_set A B _ rfl 3 (by omega)] at h2
    rw [HK.out, HNB.out, rowCells_split]
    rw [HNB.out] at h2
    exact h2
  have hlen : (A ++ ⟨synced x.f, x.ao, x.c⟩ :: B).length = (A ++ x :: B).length := by simp
  have hmem : ∀ y ∈ A ++ ⟨synced x.f, x.ao, x.c⟩ :: B, y ∈ A ++ x :: B ∨ y = ⟨synced x.f, x.ao, x.c⟩ := by
    intro y hy
    simp at hy ⊢
    grind
  have hfar := hd.far
  have hout : ∀ A', x.ao = some A' → x.f.b ≠ [] → A'.block ≠ b ∧ A'.block ≠ g := by
    intro A' hA' hne
    have := hfar x (by simp) A' hA' hne
    simp [Value.ownBlock] at this
    exact ⟨this.1, fun e => this.2 e.symm⟩
  refine ⟨rfl, ⟨t.heap hd.head (by simpa using fun e => hgb e.symm), ?_, ?_, hd.apart, ?_, ?_, ?_⟩, t.mono (fun i hi => .inl (by simp at hi; simp [rblk, Value.ownBlock, hi]))⟩
  · rw [hlen]
    exact hrow
  · intro y hy
    rcases hmem y hy with h | rfl
    · refine (hd.sl y h).turn t (fun A' hA' hne hm => ?_)
      have := (hfar y h A' hA' hne).2
      simp at hm
      exact this (by simp [Value.ownBlock, hm])
    · exact (hd.sl x (by simp)).turn t (fun A' hA' hne hm => (hout A' hA' hne).2 (by simpa using hm))
  · intro y hy
    rcases hmem y hy with h | rfl
    · exact hfar y h
    · exact hfar x (by simp)
  · intro y hy
    rcases hmem y hy with h | rfl
    · exact hd.sure y h
    · exact Nat.le_refl _
  · have := hd.total
    simp [tot, synced] at this ⊢
    exact this

/-- The blocks are the same. -/
theorem rblk_same (b : Nat) (v : Value) (A B : List Rf) (x : Rf) (f : Fm) (hf : f.b = x.f.b) : rblk b v (A ++ ⟨f, x.ao, x.c⟩ :: B) = rblk b v (A ++ x :: B) := by
  simp [rblk, Rf.blocks, hf]

theorem RefM.split {w : World} {b room : Nat} {l : List Nat} {M1 M2 : List Fm} {f : Fm} (h : RefM w b room l (M1 ++ f :: M2)) : ∃ v A x B, RefIs w b room v (A ++ x :: B) ∧ A.map Rf.f = M1 ∧ x.f = f ∧ B.map Rf.f = M2 ∧ rblk b v (A ++ x :: B) = l := by
  obtain ⟨v, R, hd, hm, rfl⟩ := h
  obtain ⟨A, R', rfl, h1, h2⟩ := List.map_eq_append_iff.1 hm
  obtain ⟨x, B, rfl, h3, h4⟩ := List.map_eq_cons_iff.1 h2
  exact ⟨v, A, x, B, hd, h1, h3, h4, rfl⟩

theorem refSync_some {b room : Nat} {l : List Nat} {M1 M2 : List Fm} {f : Fm} (w : World) (h : RefM w b room l (M1 ++ f :: M2)) (hnd : ((M1 ++ f :: M2).map Fm.name).Nodup) :
    Calls Try.prog 34 #[.pointer (some ⟨b, 0, none⟩), .string ⟨f.name.toArray⟩] w fun e w' => e = .returned (.int .i64 0) ∧ Turn l w w' ∧ RefM w' b room l (M1 ++ synced f :: M2) := by
  obtain ⟨v, A, x, B, hd, rfl, rfl, rfl, rfl⟩ := h.split
  refine (refSync_raw w hd (by simpa [Function.comp_def] using hnd)).mono ?_
  rintro e w' ⟨rfl, hd', ht⟩
  exact ⟨rfl, ht, v, _, hd', by simp, rblk_same b v A B x (synced x.f) rfl⟩

set_option maxHeartbeats 400000 in
theorem refSync_none {b room : Nat} {l : List Nat} {M : List Fm} {n : List UInt8} (w : World) (h : RefM w b room l M) (hn : n ∉ M.map Fm.name) :
    Calls Try.prog 34 #[.pointer (some ⟨b, 0, none⟩), .string ⟨n.toArray⟩] w fun e w' => e = .returned (.int .i64 6) ∧ w = w' := by
  obtain ⟨v, R, hd, rfl, rfl⟩ := h
  rw [List.map_map] at hn
  have H := Lib.hid hd
  have HN := Lib.hid hn
  clear hd hn
  go_enter Try.func34, Try.ntmps34
  go_wp2_with fail
  refine (at_none _ H.out HN.out).mono ?_
  rintro e w' ⟨rfl, rfl⟩
  go_wp2
  go_ret
  exact ⟨rfl, rfl⟩

theorem refSync_fn {b room : Nat} {l : List Nat} {M : List Fm} {n : List UInt8} (w : World) (h : RefM w b room l M) (hnd : (M.map Fm.name).Nodup) :
    Calls Try.prog 34 #[.pointer (some ⟨b, 0, none⟩), .string ⟨n.toArray⟩] w fun e w' => e = .returned (.int .i64 (synE M n)) ∧ Turn l w w' ∧ RefM w' b room l (synM M n) := by
  unfold synE synM
  by_cases hh : hasF M n = true
  · rw [if_pos hh]
    obtain ⟨A, g, B, rfl, rfl⟩ := hasF_split hh
    rw [mUp_split _ hnd]
    exact refSync_some w h hnd
  · rw [if_neg hh, mUp_not _ (by simpa using hh)]
    refine (refSync_none w h (hasF_not (by simpa using hh))).mono ?_
    rintro e w' ⟨rfl, rfl⟩
    exact ⟨rfl, Turn.refl _ _, h⟩

end Go.Proofs.Ytlcilbbgfilefaa
