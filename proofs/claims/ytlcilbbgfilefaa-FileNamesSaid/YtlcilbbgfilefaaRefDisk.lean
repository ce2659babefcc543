/-
  The reference's disk in memory: its struct, its row of files; the walks of NewDisk, may, At, Used.
-/
import Derived.Test.YtlcilbbgfilefaaFn
import Derived.LoopTactic
import Derived.Lib.MinMax
namespace Go.Proofs.Ytlcilbbgfilefaa
open Go.RowKit

/-- A file of the reference's: where its bytes are. -/
structure Rf where
  f : Fm
  ao : Option Addr
  c : Nat

def rfCells (x : Rf) : List Value := [.string ⟨x.f.name.toArray⟩, .slice x.ao x.f.b.length x.c, .int .i64 (x.f.sure : Int), .bool x.f.named]
def rowCells (R : List Rf) : List Value := R.flatMap rfCells

theorem rowCells_length (R : List Rf) : (rowCells R).length = R.length * 4 := by
  induction R with
  | nil => rfl
  | cons x R ih => simp only [rowCells, List.flatMap_cons, List.length_append, List.length_cons] at ih ⊢; rw [ih]; simp [rfCells]; omega

theorem rowCells_at : ∀ (R : List Rf) (k : Nat) (hk : k < R.length) (j : Nat), j < 4 → (rowCells R)[k * 4 + j]? = (rfCells R[k])[j]?
  | [], k, hk, _, _ => by simp at hk
  | x :: R, 0, _, j, hj => by
    show (rfCells x ++ rowCells R)[0 * 4 + j]? = _
    rw [List.getElem?_append_left (by simp [rfCells]; omega)]
    simp
  | x :: R, k + 1, hk, j, hj => by
    show (rfCells x ++ rowCells R)[(k + 1) * 4 + j]? = _
    rw [List.getElem?_append_right (by simp [rfCells]; omega)]
    have e : (k + 1) * 4 + j - (rfCells x).length = k * 4 + j := by simp [rfCells]; omega
    rw [e]
    exact rowCells_at R k (by simpa using hk) j hj

structure RefIs (w : World) (b room : Nat) (v : Value) (R : List Rf) : Prop where
  head : w.heap[b]? = some (.cells #[.int .i64 (room : Int), v] 61 (0, 0))
  row : w.ownsRow 0 63 4 v R.length (rowCells R)
  sl : ∀ x ∈ R, Sl w x.ao x.c x.f.b
  apart : v.ownBlock ≠ some b
  far : ∀ x ∈ R, ∀ A, x.ao = some A → x.f.b ≠ [] → A.block ≠ b ∧ v.ownBlock ≠ some A.block
  sure : ∀ x ∈ R, x.f.sure ≤ x.f.b.length
  total : tot (R.map Rf.f) ≤ 1048576

/-- The blocks of a file's bytes. -/
def Rf.blocks (x : Rf) : List Nat := if x.f.b = [] then [] else (x.ao.map Addr.block).toList
def rblk (b : Nat) (v : Value) (R : List Rf) : List Nat := b :: (v.ownBlock.toList ++ R.flatMap Rf.blocks)

def RefM (w : World) (b room : Nat) (l : List Nat) (M : List Fm) : Prop := ∃ v R, RefIs w b room v R ∧ R.map Rf.f = M ∧ rblk b v R = l

theorem RefIs.turn {l : List Nat} {w w' : World} {b room : Nat} {v : Value} {R : List Rf} (h : RefIs w b room v R) (ht : Turn l w w') (hn : ∀ k ∈ rblk b v R, k ∉ l) : RefIs w' b room v R := by
  refine ⟨ht.heap h.head (hn _ (by simp [rblk])), ownsRow_turn h.row ht (fun k hk => hn k (by simp [rblk, hk])), fun x hx => (h.sl x hx).turn ht (fun A hA hne => hn _ ?_), h.apart, h.far, h.sure, h.total⟩
  simp only [rblk, List.mem_cons, List.mem_append, List.mem_flatMap]
  exact .inr (.inr ⟨x, hx, by simp [Rf.blocks, hne, hA]⟩)

theorem RefIs.lt {w : World} {b room : Nat} {v : Value} {R : List Rf} (h : RefIs w b room v R) : ∀ k ∈ rblk b v R, k < w.heap.size := by
  intro k hk
  simp only [rblk, List.mem_cons, List.mem_append, List.mem_flatMap] at hk
  rcases hk with rfl | hk | ⟨x, hx, hk⟩
  · exact lt_of_heap h.head
  · exact (h.row.lt k (by simpa using hk)).2
  · unfold Rf.blocks at hk
    split at hk
    · simp at hk
    · rename_i hne
      cases hao : x.ao with
      | none => rw [hao] at hk; simp at hk
      | some A =>
        rw [hao] at hk
        have hs := h.sl x hx
        rw [hao] at hs
        have := hs.lt hne
        simp at hk
        omega

theorem RefM.turn {l k : List Nat} {w w' : World} {b room : Nat} {M : List Fm} (h : RefM w b room l M) (ht : Turn k w w') (hn : ∀ i ∈ l, i ∉ k) : RefM w' b room l M := by
  obtain ⟨v, R, hd, rfl, rfl⟩ := h
  exact ⟨v, R, hd.turn ht hn, rfl, rfl⟩

theorem RefM.lt {l : List Nat} {w : World} {b room : Nat} {M : List Fm} (h : RefM w b room l M) : ∀ i ∈ l, i < w.heap.size := by
  obtain ⟨v, R, hd, rfl, rfl⟩ := h
  exact hd.lt

theorem two_cells {w : World} {b : Nat} {x y : Value} {T : TypeId} (h : w.heap[b]? = some (.cells #[x, y] T (0, 0))) :
    w.cell? ⟨b, 0, none⟩ = some x ∧ w.cell? ⟨b, 1, none⟩ = some y ∧ w.frozen? ⟨b, 0, none⟩ = false ∧ w.frozen? ⟨b, 1, none⟩ = false :=
  ⟨by rw [cell_of_row w b 0 _ _ _ h]; rfl, by rw [cell_of_row w b 1 _ _ _ h]; rfl, unfrozen_of h, unfrozen_of h⟩

/-- The row's value, and a file's four cells. -/
theorem RefIs.form {w : World} {b room : Nat} {v : Value} {R : List Rf} (h : RefIs w b room v R) : ∃ ao cap, v = .slice ao R.length cap ∧ (R ≠ [] → ∃ g, ao = some ⟨g, 0, none⟩) := by
  rcases h.row.2 with ⟨rfl, h0⟩ | ⟨g, cap, cur, rfl, _⟩
  · exact ⟨none, 0, by rw [h0], fun hne => absurd (List.eq_nil_of_length_eq_zero h0) hne⟩
  · exact ⟨_, cap, rfl, fun _ => ⟨g, rfl⟩⟩

theorem RefIs.cells {w : World} {b room g cap : Nat} {R : List Rf} (h : RefIs w b room (.slice (some ⟨g, 0, none⟩) R.length cap) R) {k : Nat} (hk : k < R.length) :
    w.cell? ⟨g, k * 4, none⟩ = some (.string ⟨R[k].f.name.toArray⟩) ∧ w.cell? ⟨g, k * 4 + 1, none⟩ = some (.slice R[k].ao R[k].f.b.length R[k].c) ∧
    w.cell? ⟨g, k * 4 + 2, none⟩ = some (.int .i64 (R[k].f.sure : Int)) ∧ w.cell? ⟨g, k * 4 + 3, none⟩ = some (.bool R[k].f.named) := by
  have h0 := fun j (hj : j < 4) u (hu : (rfCells R[k])[j]? = some u) => h.row.cells (g := g) rfl (k * 4 + j) u (by rw [rowCells_at R k hk j hj]; exact hu)
  simp only [Addr.add_lit, Nat.zero_add] at h0
  exact ⟨h0 0 (by omega) _ rfl, h0 1 (by omega) _ rfl, h0 2 (by omega) _ rfl, h0 3 (by omega) _ rfl⟩

set_option maxHeartbeats 400000 in
theorem newRef_calls (n : Int) (w : World) :
    Calls Try.prog 16 #[.int .i64 n] w fun e w' => e = .returned (.pointer (some ⟨w.heap.size, 0, none⟩)) ∧ RefM w' w.heap.size (roomOf n) [w.heap.size] [] ∧ Below w.heap.size w w' := by
  have hm : max 0 (min n 1048576) = ((roomOf n : Nat) : Int) := by unfold roomOf; omega
  have hD : RefM (w.alloc (.cells #[.int .i64 (roomOf n : Nat), .slice none 0 0] 61)) w.heap.size (roomOf n) [w.heap.size] [] := by
    refine ⟨.slice none 0 0, [], ⟨heap_alloc_new w _, World.ownsRow_nil _ _ _ _, by simp, by simp [Value.ownBlock], by simp, by simp, by simp [tot]⟩, rfl, rfl⟩
  have HD := Lib.hid hD
  have HB := Lib.hid (new_below w (.cells #[.int .i64 (roomOf n : Nat), .slice none 0 0] 61))
  clear hD
  go_enter Try.func16, Try.ntmps16
  go_wp2
  go_ret
  exact ⟨rfl, HD.out, HB.out⟩

set_option maxHeartbeats 1000000 in
theorem may_any (s : ByteArray) (w : World) (hs : s.size ≤ 9223372036854775807) :
    Calls Try.prog 41 #[.string s] w fun e w' => e = .returned (.bool (okName s.data.toList)) ∧ w = w' := by
  go_enter Try.func41, Try.ntmps41
  go_wp2
  go_loop [3] (fun i => ∃ k : Nat, k ≤ s.size ∧ i = .int .i64 k ∧ (s.data.toList.take k).all okSign = true) (fun i => s.size - (intOf i).toNat)
  case atStart => exact ⟨0, by omega, rfl, rfl⟩
  case round =>
    obtain ⟨k, hk, rfl, hall⟩ := hrel
    have HA := Lib.hid hall
    clear hall
    by_cases hlt : k < s.size
    · have hs' : k < s.data.toList.length := by simpa using hlt
      have hE : s.data.toList[k] = s[k] := by simp [ByteArray.getElem_eq_getElem_data]
      obtain ⟨x, hx⟩ : ∃ x : Nat, x = s[k].toNat := ⟨_, rfl⟩
      have hok := okSign_is s.data.toList[k] x (by rw [hE, hx])
      have HN := Lib.hid (fun h => all_take_next hs' HA.out h)
      have HB := Lib.hid (fun h => okName_bad hs' h)
      have HO := Lib.hid hok
      have HX := Lib.hid hx
      clear hok hx hE HA
      rcases (by omega : x < 48 ∨ (48 ≤ x ∧ x ≤ 57) ∨ (57 < x ∧ x < 97) ∨ (97 ≤ x ∧ x ≤ 122) ∨ 122 < x) with h | h | h | h | h
      · have HF := Lib.hid (HB.out (by rw [HO.out]; simp; omega))
        have a1 : (s[k].toNat : Int) < 97 := by rw [← HX.out]; omega
        have a2 : (s[k].toNat : Int) < 48 := by rw [← HX.out]; omega
        go_wp2
        go_ret
        exact ⟨ret_bool (a := false) HF.out.symm, rfl⟩
      · have a1 : (s[k].toNat : Int) < 97 := by rw [← HX.out]; omega
        have a2 : decide ((s[k].toNat : Int) < 48) = false := by rw [← HX.out]; simp; omega
        have a3 : decide ((57 : Int) < (s[k].toNat : Int)) = false := by rw [← HX.out]; simp; omega
        go_wp2
        all_goals
          go_round
          case rel => exact ⟨k + 1, by omega, by go_num, HN.out (by rw [HO.out]; simp; omega)⟩
          case measure => simp [intOf]; omega
      · have HF := Lib.hid (HB.out (by rw [HO.out]; simp; omega))
        have a1 : (s[k].toNat : Int) < 97 := by rw [← HX.out]; omega
        have a2 : decide ((s[k].toNat : Int) < 48) = false := by rw [← HX.out]; simp; omega
        have a3 : (57 : Int) < (s[k].toNat : Int) := by rw [← HX.out]; omega
        go_wp2
        go_ret
        exact ⟨ret_bool (a := false) HF.out.symm, rfl⟩
      · have a1 : decide ((s[k].toNat : Int) < 97) = false := by rw [← HX.out]; simp; omega
        have a2 : decide ((122 : Int) < (s[k].toNat : Int)) = false := by rw [← HX.out]; simp; omega
        go_wp2
        all_goals
          go_round
          case rel => exact ⟨k + 1, by omega, by go_num, HN.out (by rw [HO.out]; simp; omega)⟩
          case measure => simp [intOf]; omega
      · have HF := Lib.hid (HB.out (by rw [HO.out]; simp; omega))
        have a1 : decide ((s[k].toNat : Int) < 97) = false := by rw [← HX.out]; simp; omega
        have a2 : (122 : Int) < (s[k].toNat : Int) := by rw [← HX.out]; omega
        have a3 : decide ((s[k].toNat : Int) < 48) = false := by rw [← HX.out]; simp; omega
        have a4 : (57 : Int) < (s[k].toNat : Int) := by rw [← HX.out]; omega
        go_wp2
        go_ret
        exact ⟨ret_bool (a := false) HF.out.symm, rfl⟩
    · have hkk : k = s.size := by omega
      have hall : s.data.toList.all okSign = true := by have := HA.out; rwa [hkk, List.take_of_length_le (by simp)] at this
      have HO := Lib.hid (show okName s.data.toList = (decide (1 ≤ s.size) && decide (s.size ≤ 12)) by simp [okName, hall])
      clear hall HA hkk
      by_cases h1 : 1 ≤ s.size
      · go_wp2
        go_ret
        exact ⟨ret_bool (by rw [HO.out, Bool.eq_iff_iff]; simp; omega), rfl⟩
      · have h0 : s.size < 1 := by omega
        go_wp2
        go_ret
        exact ⟨ret_bool (by rw [HO.out, Bool.eq_iff_iff]; simp; omega), rfl⟩

theorem may_calls (n : List UInt8) (w : World) (hs : n.length ≤ 9223372036854775807) :
    Calls Try.prog 41 #[.string ⟨n.toArray⟩] w fun e w' => e = .returned (.bool (okName n)) ∧ w = w' :=
  may_any ⟨n.toArray⟩ w (by rw [size_mk]; exact hs)

end Go.Proofs.Ytlcilbbgfilefaa
