/-
  The walks of the reference's At and Used.
-/
import Derived.Test.YtlcilbbgfilefaaRefDisk
namespace Go.Proofs.Ytlcilbbgfilefaa
open Go.RowKit

/-- What At tells: a file's place, or that there is none. -/
def AtSays (R : List Rf) (n : List UInt8) (e : Ending) : Prop :=
  (∃ k, k < R.length ∧ (∀ x, R[k]? = some x → x.f.name = n) ∧ e = .returned (.int .i64 (k : Nat))) ∨ ((∀ x ∈ R, x.f.name ≠ n) ∧ e = .returned (.int .i64 (-1)))

set_option maxHeartbeats 1000000 in
set_option maxRecDepth 100000 in
theorem at_raw {b room : Nat} {v : Value} {R : List Rf} {n : List UInt8} (w : World) (h : RefIs w b room v R) :
    Calls Try.prog 37 #[.pointer (some ⟨b, 0, none⟩), .string ⟨n.toArray⟩] w fun e w' =>
      AtSays R n e ∧ w = w' := by
  obtain ⟨ao, cap, hv, hao⟩ := h.form
  have hcp : R.length ≤ 9223372036854775807 := by
    rcases h.row.2 with ⟨_, h0⟩ | ⟨g, cap, cur, _, _, _, h1, h2, _⟩
    · omega
    · unfold maxLen at h2; omega
  subst hv
  obtain ⟨-, c1, -, -⟩ := two_cells h.head
  have H := Lib.hid h
  have HA := Lib.hid hao
  obtain ⟨N, hN⟩ : ∃ N, N = R.length := ⟨_, rfl⟩
  rw [← hN] at c1 hcp
  have HN := Lib.hid hN
  clear h hao hN
  go_enter Try.func37, Try.ntmps37
  go_wp2
  go_loop [5] (fun i => ∃ k : Nat, k ≤ N ∧ i = .int .i64 k ∧ ∀ x ∈ R.take k, x.f.name ≠ n) (fun i => N - (intOf i).toNat)
  case atStart => exact ⟨0, by omega, rfl, by simp⟩
  case round =>
    obtain ⟨k, hk, rfl, hall⟩ := hrel
    have HALL := Lib.hid hall
    clear hall
    by_cases hlt : k < N
    · have hkR : k < R.length := by rw [← HN.out]; exact hlt
      obtain ⟨g, hg⟩ := HA.out (by intro e; rw [e] at hkR; simp at hkR)
      subst hg
      obtain ⟨d0, -, -, -⟩ := H.out.cells hkR
      have hsnoc : ∀ x ∈ R.take (k + 1), x ∈ R.take k ∨ x = R[k] := by
        intro x hx
        rw [List.take_succ_eq_append_getElem hkR] at hx
        rcases List.mem_append.1 hx with h | h
        · exact .inl h
        · exact .inr (List.mem_singleton.1 h)
      have HS := Lib.hid hsnoc
      have HK := Lib.hid (show R[k]? = some R[k] from List.getElem?_eq_getElem hkR)
      clear hsnoc
      generalize R[k] = x at *
      cases hb : x.f.name == n with
      | true =>
        go_wp2
        go_ret
        refine ⟨.inl ⟨k, hkR, ?_, rfl⟩, rfl⟩
        intro y hy
        rw [HK.out] at hy
        cases hy
        simpa using hb
      | false =>
        go_wp2
        go_round
        case rel =>
          refine ⟨k + 1, by omega, by go_num, fun y hy => ?_⟩
          rcases HS.out y hy with h | h
          · exact HALL.out y h
          · rw [h]; simpa using hb
        case measure => simp [intOf]; omega
    · have hkk : R.take k = R := List.take_of_length_le (by rw [← HN.out]; omega)
      have HKK := Lib.hid hkk
      clear hkk
      go_wp2
      go_ret
      exact ⟨.inr ⟨fun x hx => HALL.out x (by rw [HKK.out]; exact hx), rfl⟩, rfl⟩

theorem at_none {b room : Nat} {v : Value} {R : List Rf} {n : List UInt8} (w : World) (h : RefIs w b room v R) (hn : n ∉ R.map (fun x => x.f.name)) :
    Calls Try.prog 37 #[.pointer (some ⟨b, 0, none⟩), .string ⟨n.toArray⟩] w fun e w' => e = .returned (.int .i64 (-1)) ∧ w = w' := by
  refine (at_raw w h).mono ?_
  rintro e w' ⟨⟨k, hk, h1, _⟩ | ⟨_, rfl⟩, rfl⟩
  · exact absurd (List.mem_map.2 ⟨R[k], List.getElem_mem hk, h1 _ (List.getElem?_eq_getElem hk)⟩) hn
  · exact ⟨rfl, rfl⟩

theorem at_some {b room : Nat} {v : Value} {A B : List Rf} {x : Rf} (w : World) (h : RefIs w b room v (A ++ x :: B)) (hnd : ((A ++ x :: B).map (fun x => x.f.name)).Nodup) :
    Calls Try.prog 37 #[.pointer (some ⟨b, 0, none⟩), .string ⟨x.f.name.toArray⟩] w fun e w' => e = .returned (.int .i64 (A.length : Nat)) ∧ w = w' := by
  refine (at_raw w h).mono ?_
  rintro e w' ⟨⟨k, hk, h1, rfl⟩ | ⟨h1, _⟩, rfl⟩
  · refine ⟨?_, rfl⟩
    have h2 := h1 _ (List.getElem?_eq_getElem hk)
    rw [List.nodup_iff_pairwise_ne, List.pairwise_iff_getElem] at hnd
    have hA : A.length < (A ++ x :: B).length := by simp
    have hx : (A ++ x :: B)[A.length]'hA = x := by simp
    have hkA : k = A.length := by
      rcases Nat.lt_trichotomy k A.length with h3 | h3 | h3
      · exact absurd (by rw [List.getElem_map, List.getElem_map, hx, h2]) (hnd k A.length (by rw [List.length_map]; exact hk) (by rw [List.length_map]; exact hA) h3)
      · exact h3
      · exact absurd (by rw [List.getElem_map, List.getElem_map, hx, h2]) (hnd A.length k (by rw [List.length_map]; exact hA) (by rw [List.length_map]; exact hk) h3)
    rw [hkA]
  · exact absurd rfl (h1 x (by simp))

theorem tot_take (M : List Fm) (k : Nat) (hk : k < M.length) : tot (M.take (k + 1)) = tot (M.take k) + M[k].b.length := by
  rw [List.take_succ_eq_append_getElem hk, tot_append]
  simp [tot]

set_option maxHeartbeats 1000000 in
set_option maxRecDepth 100000 in
theorem refUsed_raw {b room : Nat} {v : Value} {R : List Rf} (w : World) (h : RefIs w b room v R) :
    Calls Try.prog 36 #[.pointer (some ⟨b, 0, none⟩)] w fun e w' => e = .returned (.int .i64 (tot (R.map Rf.f) : Nat)) ∧ w = w' := by
  obtain ⟨ao, cap, hv, hao⟩ := h.form
  have hcp : R.length ≤ 9223372036854775807 := by
    rcases h.row.2 with ⟨_, h0⟩ | ⟨g, cap, cur, _, _, _, h1, h2, _⟩
    · omega
    · unfold maxLen at h2; omega
  subst hv
  obtain ⟨-, c1, -, -⟩ := two_cells h.head
  have H := Lib.hid h
  have HA := Lib.hid hao
  have HTT := Lib.hid h.total
  obtain ⟨N, hN⟩ : ∃ N, N = R.length := ⟨_, rfl⟩
  rw [← hN] at c1 hcp
  have HN := Lib.hid hN
  clear h hao hN
  go_enter Try.func36, Try.ntmps36
  go_wp2
  go_loop [3, 4] (fun u i => ∃ k : Nat, k ≤ N ∧ i = .int .i64 k ∧ u = .int .i64 (tot ((R.map Rf.f).take k) : Nat)) (fun _ i => N - (intOf i).toNat)
  case atStart => exact ⟨0, by omega, rfl, rfl⟩
  case round =>
    obtain ⟨k, hk, rfl, rfl⟩ := hrel
    by_cases hlt : k < N
    · have hkR : k < R.length := by rw [← HN.out]; exact hlt
      obtain ⟨g, hg⟩ := HA.out (by intro e; rw [e] at hkR; simp at hkR)
      subst hg
      obtain ⟨-, d1, -, -⟩ := H.out.cells hkR
      have hs := tot_take (R.map Rf.f) k (by simpa using hkR)
      rw [List.getElem_map] at hs
      have hle := take_tot (R.map Rf.f) (k + 1)
      have hle2 := HTT.out
      obtain ⟨T, hT⟩ : ∃ T, T = tot ((R.map Rf.f).take k) := ⟨_, rfl⟩
      obtain ⟨nb, hnb⟩ : ∃ nb, nb = R[k].f.b.length := ⟨_, rfl⟩
      rw [← hT, ← hnb] at hs
      rw [← hnb] at d1
      rw [← hT]
      have hb : T + nb ≤ 1048576 := by omega
      have HS := Lib.hid hs
      clear hs hle hle2 hT hnb
      go_wp2
      go_round
      case rel => exact ⟨k + 1, by omega, by go_num, by rw [HS.out]; go_num⟩
      case measure => simp [intOf]; omega
    · have hkk : (R.map Rf.f).take k = R.map Rf.f := List.take_of_length_le (by rw [List.length_map, ← HN.out]; omega)
      rw [hkk]
      clear hkk
      obtain ⟨T, hT⟩ : ∃ T, T = tot (R.map Rf.f) := ⟨_, rfl⟩
      rw [← hT]
      have HT := Lib.hid hT
      clear hT
      go_wp2
      go_ret
      exact ⟨ret_int (by rw [HT.out]), rfl⟩

theorem refUsed_calls {b room : Nat} {l : List Nat} {M : List Fm} (w : World) (h : RefM w b room l M) :
    Calls Try.prog 36 #[.pointer (some ⟨b, 0, none⟩)] w fun e w' => e = .returned (.int .i64 (tot M : Nat)) ∧ w = w' := by
  obtain ⟨v, R, hd, rfl, rfl⟩ := h
  exact refUsed_raw w hd

end Go.Proofs.Ytlcilbbgfilefaa
