/-
  The walks of the reference's Delete and Rename.
-/
import Derived.Test.YtlcilbbgfilefaaRefGone
namespace Go.Proofs.Ytlcilbbgfilefaa
open Go.RowKit

theorem refAt_some {b room : Nat} {l : List Nat} {M1 M2 : List Fm} {f : Fm} (w : World) (h : RefM w b room l (M1 ++ f :: M2)) (hnd : ((M1 ++ f :: M2).map Fm.name).Nodup) :
    Calls Try.prog 37 #[.pointer (some ⟨b, 0, none⟩), .string ⟨f.name.toArray⟩] w fun e w' => e = .returned (.int .i64 (M1.length : Nat)) ∧ w = w' := by
  obtain ⟨v, A, x, B, hd, rfl, rfl, rfl, rfl⟩ := h.split
  refine (at_some w hd (by simpa [Function.comp_def] using hnd)).mono ?_
  rintro e w' ⟨rfl, rfl⟩
  exact ⟨by rw [List.length_map], rfl⟩

theorem refAt_none {b room : Nat} {l : List Nat} {M : List Fm} {n : List UInt8} (w : World) (h : RefM w b room l M) (hn : n ∉ M.map Fm.name) :
    Calls Try.prog 37 #[.pointer (some ⟨b, 0, none⟩), .string ⟨n.toArray⟩] w fun e w' => e = .returned (.int .i64 (-1)) ∧ w = w' := by
  obtain ⟨v, R, hd, rfl, rfl⟩ := h
  rw [List.map_map] at hn
  exact at_none w hd hn

theorem refGone_calls {b room : Nat} {l : List Nat} {M1 M2 : List Fm} {f : Fm} (w : World) (h : RefM w b room l (M1 ++ f :: M2)) (hfew : (M1 ++ f :: M2).length ≤ 400000) :
    Calls Try.prog 44 #[.pointer (some ⟨b, 0, none⟩), .int .i64 (M1.length : Nat)] w fun e w' => e = .returned (.tuple #[]) ∧ Turn l w w' ∧ ∃ l', RefM w' b room l' (M1 ++ M2) ∧ ∀ i ∈ l', i ∈ l ∨ w.heap.size ≤ i := by
  obtain ⟨v, A, x, B, hd, rfl, rfl, rfl, rfl⟩ := h.split
  rw [List.length_map]
  refine (gone_raw w hd (by simpa using hfew)).mono ?_
  rintro e w' ⟨rfl, v', hd', ht, hv⟩
  refine ⟨rfl, ht.mono (by simp [rblk]), _, ⟨v', _, hd', by simp, rfl⟩, ?_⟩
  intro i hi
  simp only [rblk, List.mem_cons, List.mem_append, List.mem_flatMap] at hi ⊢
  rcases hi with rfl | hi | ⟨y, hy, hi⟩
  · exact .inl (.inl rfl)
  · exact .inr (hv i (by simpa using hi))
  · exact .inl (.inr (.inr ⟨y, by grind, hi⟩))

set_option maxHeartbeats 1000000 in
theorem refDelete_some {b room : Nat} {l : List Nat} {M1 M2 : List Fm} {f : Fm} (w : World) (h : RefM w b room l (M1 ++ f :: M2)) (hnd : ((M1 ++ f :: M2).map Fm.name).Nodup) (hfew : (M1 ++ f :: M2).length ≤ 400000) :
    Calls Try.prog 35 #[.pointer (some ⟨b, 0, none⟩), .string ⟨f.name.toArray⟩] w fun e w' => e = .returned (.int .i64 0) ∧ Turn l w w' ∧ ∃ l', RefM w' b room l' (M1 ++ M2) ∧ ∀ i ∈ l', i ∈ l ∨ w.heap.size ≤ i := by
  have CA := Lib.hid (refAt_some w h hnd)
  have CG := Lib.hid (refGone_calls w h hfew)
  have hk : M1.length ≤ 400000 := by simp at hfew; omega
  clear h hnd hfew
  obtain ⟨k, hkk⟩ : ∃ k, k = M1.length := ⟨_, rfl⟩
  rw [← hkk] at CA CG hk
  clear hkk
  go_enter Try.func35, Try.ntmps35
  go_wp2_with fail
  refine CA.out.mono ?_
  rintro e w' ⟨rfl, rfl⟩
  go_wp2_with fail
  refine CG.out.mono ?_
  rintro e w' ⟨rfl, ht, hl⟩
  have HT := Lib.hid ht
  have HL := Lib.hid hl
  clear ht hl
  go_wp2
  go_ret
  exact ⟨rfl, HT.out, HL.out⟩

set_option maxHeartbeats 400000 in
theorem refDelete_none {b room : Nat} {l : List Nat} {M : List Fm} {n : List UInt8} (w : World) (h : RefM w b room l M) (hn : n ∉ M.map Fm.name) :
    Calls Try.prog 35 #[.pointer (some ⟨b, 0, none⟩), .string ⟨n.toArray⟩] w fun e w' => e = .returned (.int .i64 6) ∧ w = w' := by
  have CA := Lib.hid (refAt_none w h hn)
  clear h hn
  go_enter Try.func35, Try.ntmps35
  go_wp2_with fail
  refine CA.out.mono ?_
  rintro e w' ⟨rfl, rfl⟩
  go_wp2
  go_ret
  exact ⟨rfl, rfl⟩

theorem refDelete_fn {b room : Nat} {l : List Nat} {M : List Fm} {n : List UInt8} (w : World) (h : RefM w b room l M) (hnd : (M.map Fm.name).Nodup) (hfew : M.length ≤ 400000) :
    Calls Try.prog 35 #[.pointer (some ⟨b, 0, none⟩), .string ⟨n.toArray⟩] w fun e w' => e = .returned (.int .i64 (synE M n)) ∧ Turn l w w' ∧ ∃ l', RefM w' b room l' (mDel n M) ∧ ∀ i ∈ l', i ∈ l ∨ w.heap.size ≤ i := by
  unfold synE
  by_cases hh : hasF M n = true
  · rw [if_pos hh]
    obtain ⟨A, g, B, rfl, rfl⟩ := hasF_split hh
    rw [mDel_split hnd]
    exact refDelete_some w h hnd hfew
  · rw [if_neg hh, mDel_not (hasF_not (by simpa using hh))]
    refine (refDelete_none w h (hasF_not (by simpa using hh))).mono ?_
    rintro e w' ⟨rfl, rfl⟩
    exact ⟨rfl, Turn.refl _ _, l, h, fun i hi => .inl hi⟩

end Go.Proofs.Ytlcilbbgfilefaa
