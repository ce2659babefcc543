/-
  A hatch's calls, of texts.
-/
import Derived.Test.YtijpfahiedggmaaPutS
import Derived.RegionTactic
import Derived.Lib.MinMax
import Derived.ChangeAlike
namespace Go.Proofs.Ytijpfahiedggmaa
open Go.RowKit Go.Conc

abbrev HS (w : World) (b c1 c2 room : Nat) (F S : List (Nat × Value)) (lost : Nat) : Prop := HIs 64 9 w b c1 c2 room F S lost

theorem lenS (w : World) (ty : TypeId) {c room : Nat} {L : List (Nat × Value)} (h : Lane 9 w c room L) : (Builtin.len_ #[62] ty #[.chan (some c)]).run Try.prog w = .ok (.int .i64 (L.length : Int)) w := by
  obtain ⟨⟨s, r, h1⟩, -⟩ := h
  have hu : (Try.prog.underlying 62).map (fun d => match d with | .chan _ _ => true | _ => false) = some true := by kernel_rfl
  obtain ⟨d, hd, hc⟩ := Option.map_eq_some_iff.1 hu
  cases d <;> simp at hc
  rw [run_len_chan _ ty hd h1]
  simp [goInt]

set_option maxHeartbeats 400000 in
theorem countS_true (w : World) (b : Nat) : Calls Try.prog 33 #[.pointer (some ⟨b, 0, none⟩), .bool true] w fun e w' => e = .returned (.bool true) ∧ w' = w := by
  go_enter Try.func33, Try.ntmps33
  go_wp2
  go_ret
  exact ⟨rfl, rfl⟩

set_option maxHeartbeats 400000 in
theorem countS_false {w : World} {b c1 c2 room lost : Nat} {F S : List (Nat × Value)} (h : HS w b c1 c2 room F S lost) (hl : lost ≤ 100000) : Calls Try.prog 33 #[.pointer (some ⟨b, 0, none⟩), .bool false] w fun e w' =>
    e = .returned (.bool false) ∧ HS w' b c1 c2 room F S (lost + 1) ∧ Turn [b] w w' := by
  obtain ⟨d0, d1, d2, f0, f1, f2⟩ := three_cells h.head
  have hb := h.bc
  have hp := h.pts
  have hbb := block_set h.head (i := 2) (.int .i64 ((lost : Int) + 1))
  have hw : IntKind.wrap .i64 ((lost : Int) + 1) = (lost : Int) + 1 := by simp [IntKind.wrap, IntKind.bits, IntKind.signed]; omega
  have ht : Turn [b] w (w.setCell ⟨b, 2, none⟩ (.int .i64 ((lost : Int) + 1))) := Turn.setCell w (by simp) _
  have H := Lib.hid h
  have HP := Lib.hid hp
  have HB := Lib.hid hb
  have HBB := Lib.hid hbb
  have HT := Lib.hid ht
  clear h hp hb hbb ht
  go_enter Try.func33, Try.ntmps33
  go_wp2
  go_ret
  refine ⟨rfl, ⟨?_, H.out.fast.turn HT.out (by simpa using HB.out.1.symm) (fun p hp => by simpa using (HP.out p (by simp [hp])).1), H.out.slow.turn HT.out (by simpa using HB.out.2.symm) (fun p hp => by simpa using (HP.out p (by simp [hp])).1), H.out.ne⟩, HT.out⟩
  have := HBB.out
  simpa using this

set_option maxHeartbeats 1000000 in
set_option maxRecDepth 100000 in
theorem fastS_room {w : World} {b c1 c2 room lost : Nat} {F S : List (Nat × Value)} (h : HS w b c1 c2 room F S lost) (x : ByteArray) (hr : F.length < room) :
    Calls Try.prog 25 #[.pointer (some ⟨b, 0, none⟩), .string x] w fun e w' => e = .returned (.bool true) ∧ HS w' b c1 c2 room (F ++ [(w.heap.size, .string x)]) S lost ∧ Turn [c1] w w' := by
  obtain ⟨d0, d1, d2, f0, f1, f2⟩ := three_cells h.head
  have H := Lib.hid h
  clear h
  go_enter Try.func25, Try.ntmps25
  go_wp2_with fail
  refine (putS_room w c1 room F x H.out.fast hr).mono ?_
  rintro e w1 ⟨rfl, ht, hl⟩
  have HT := Lib.hid ht
  have HL := Lib.hid hl
  clear ht hl
  go_wp2_with fail
  refine (countS_true _ _).mono ?_
  rintro e w2 ⟨rfl, rfl⟩
  go_wp2
  go_ret
  have hb := H.out.bc
  exact ⟨rfl, ⟨HT.out.heap H.out.head (by simpa using hb.1), HL.out, H.out.slow.turn HT.out (by simpa using H.out.ne.symm) (fun p hp => by simpa using (H.out.pts p (by simp [hp])).2.1), H.out.ne⟩, HT.out⟩

set_option maxHeartbeats 1000000 in
set_option maxRecDepth 100000 in
theorem fastS_full {w : World} {b c1 c2 room lost : Nat} {F S : List (Nat × Value)} (h : HS w b c1 c2 room F S lost) (x : ByteArray) (hr : room ≤ F.length) (hl : lost ≤ 100000) :
    Calls Try.prog 25 #[.pointer (some ⟨b, 0, none⟩), .string x] w fun e w' => e = .returned (.bool false) ∧ HS w' b c1 c2 room F S (lost + 1) ∧ Turn [b] w w' := by
  obtain ⟨d0, d1, d2, f0, f1, f2⟩ := three_cells h.head
  have H := Lib.hid h
  clear h
  go_enter Try.func25, Try.ntmps25
  go_wp2_with fail
  refine (putS_full w c1 room F x H.out.fast hr).mono ?_
  rintro e w1 ⟨rfl, ht⟩
  have HT := Lib.hid ht
  have H1 := Lib.hid (H.out.nil ht)
  clear ht
  go_wp2_with fail
  refine (countS_false H1.out hl).mono ?_
  rintro e w2 ⟨rfl, h2, t2⟩
  go_wp2
  go_ret
  exact ⟨rfl, h2, (HT.out.mono (by simp)).trans t2 (by simp)⟩

set_option maxHeartbeats 1000000 in
set_option maxRecDepth 100000 in
theorem slowS_room {w : World} {b c1 c2 room lost : Nat} {F S : List (Nat × Value)} (h : HS w b c1 c2 room F S lost) (x : ByteArray) (hr : S.length < room) :
    Calls Try.prog 22 #[.pointer (some ⟨b, 0, none⟩), .string x] w fun e w' => e = .returned (.bool true) ∧ HS w' b c1 c2 room F (S ++ [(w.heap.size, .string x)]) lost ∧ Turn [c2] w w' := by
  obtain ⟨d0, d1, d2, f0, f1, f2⟩ := three_cells h.head
  have H := Lib.hid h
  clear h
  go_enter Try.func22, Try.ntmps22
  go_wp2_with fail
  refine (putS_room w c2 room S x H.out.slow hr).mono ?_
  rintro e w1 ⟨rfl, ht, hl⟩
  have HT := Lib.hid ht
  have HL := Lib.hid hl
  clear ht hl
  go_wp2_with fail
  refine (countS_true _ _).mono ?_
  rintro e w2 ⟨rfl, rfl⟩
  go_wp2
  go_ret
  have hb := H.out.bc
  exact ⟨rfl, ⟨HT.out.heap H.out.head (by simpa using hb.2), H.out.fast.turn HT.out (by simpa using H.out.ne) (fun p hp => by simpa using (H.out.pts p (by simp [hp])).2.2.1), HL.out, H.out.ne⟩, HT.out⟩

set_option maxHeartbeats 1000000 in
set_option maxRecDepth 100000 in
theorem slowS_full {w : World} {b c1 c2 room lost : Nat} {F S : List (Nat × Value)} (h : HS w b c1 c2 room F S lost) (x : ByteArray) (hr : room ≤ S.length) (hl : lost ≤ 100000) :
    Calls Try.prog 22 #[.pointer (some ⟨b, 0, none⟩), .string x] w fun e w' => e = .returned (.bool false) ∧ HS w' b c1 c2 room F S (lost + 1) ∧ Turn [b] w w' := by
  obtain ⟨d0, d1, d2, f0, f1, f2⟩ := three_cells h.head
  have H := Lib.hid h
  clear h
  go_enter Try.func22, Try.ntmps22
  go_wp2_with fail
  refine (putS_full w c2 room S x H.out.slow hr).mono ?_
  rintro e w1 ⟨rfl, ht⟩
  have HT := Lib.hid ht
  have H1 := Lib.hid (H.out.nil ht)
  clear ht
  go_wp2_with fail
  refine (countS_false H1.out hl).mono ?_
  rintro e w2 ⟨rfl, h2, t2⟩
  go_wp2
  go_ret
  exact ⟨rfl, h2, (HT.out.mono (by simp)).trans t2 (by simp)⟩

set_option maxHeartbeats 1000000 in
set_option maxRecDepth 100000 in
theorem takS_fast {w : World} {b c1 c2 room lost k : Nat} {x : ByteArray} {F S : List (Nat × Value)} (h : HS w b c1 c2 room ((k, .string x) :: F) S lost) :
    Calls Try.prog 23 #[.pointer (some ⟨b, 0, none⟩)] w fun e w' => e = .returned (.tuple #[.string x, .bool true]) ∧ HS w' b c1 c2 room F S lost ∧ Turn [c1] w w' := by
  obtain ⟨d0, d1, d2, f0, f1, f2⟩ := three_cells h.head
  have H := Lib.hid h
  clear h
  go_enter Try.func23, Try.ntmps23
  go_wp2_with fail
  refine (takeS_some w c1 room F _ H.out.fast).mono ?_
  rintro e w1 ⟨rfl, ht, hl⟩
  have hpt := (H.out.pts (k, .string x) (by simp)).2.1
  have hk : w1.cell? ⟨k, 0, none⟩ = some (.string x) := by
    rw [cell_of_row w1 k 0 _ _ _ (ht.heap (H.out.fast.2 (k, .string x) (by simp)) (by simpa using hpt))]
    rfl
  have HT := Lib.hid ht
  have HL := Lib.hid hl
  clear ht hl hpt
  unfold pt
  go_wp2
  go_ret2
  have hb := H.out.bc
  exact ⟨rfl, ⟨HT.out.heap H.out.head (by simpa using hb.1), HL.out, H.out.slow.turn HT.out (by simpa using H.out.ne.symm) (fun p hp => by simpa using (H.out.pts p (by simp [hp])).2.1), H.out.ne⟩, HT.out⟩

set_option maxHeartbeats 1000000 in
set_option maxRecDepth 100000 in
theorem takS_slow {w : World} {b c1 c2 room lost k : Nat} {x : ByteArray} {S : List (Nat × Value)} (h : HS w b c1 c2 room [] ((k, .string x) :: S) lost) :
    Calls Try.prog 23 #[.pointer (some ⟨b, 0, none⟩)] w fun e w' => e = .returned (.tuple #[.string x, .bool true]) ∧ HS w' b c1 c2 room [] S lost ∧ Turn [c2] w w' := by
  obtain ⟨d0, d1, d2, f0, f1, f2⟩ := three_cells h.head
  have H := Lib.hid h
  clear h
  go_enter Try.func23, Try.ntmps23
  go_wp2_with fail
  refine (takeS_none w c1 room H.out.fast).mono ?_
  rintro e w0 ⟨rfl, rfl⟩
  go_wp2_with fail
  refine (takeS_some _ c2 room S _ H.out.slow).mono ?_
  rintro e w1 ⟨rfl, ht, hl⟩
  have hpt := (H.out.pts (k, .string x) (by simp)).2.2.1
  have hk : w1.cell? ⟨k, 0, none⟩ = some (.string x) := by
    rw [cell_of_row w1 k 0 _ _ _ (ht.heap (H.out.slow.2 (k, .string x) (by simp)) (by simpa using hpt))]
    rfl
  have HT := Lib.hid ht
  have HL := Lib.hid hl
  clear ht hl hpt
  unfold pt
  go_wp2
  go_ret2
  have hb := H.out.bc
  exact ⟨rfl, ⟨HT.out.heap H.out.head (by simpa using hb.2), H.out.fast.turn HT.out (by simpa using H.out.ne) (by simp), HL.out, H.out.ne⟩, HT.out⟩

set_option maxHeartbeats 1000000 in
set_option maxRecDepth 100000 in
theorem takS_none {w : World} {b c1 c2 room lost : Nat} (h : HS w b c1 c2 room [] [] lost) :
    Calls Try.prog 23 #[.pointer (some ⟨b, 0, none⟩)] w fun e w' => e = .returned (.tuple #[.string ⟨#[]⟩, .bool false]) ∧ w' = w := by
  obtain ⟨d0, d1, d2, f0, f1, f2⟩ := three_cells h.head
  have H := Lib.hid h
  clear h
  go_enter Try.func23, Try.ntmps23
  go_wp2_with fail
  refine (takeS_none w c1 room H.out.fast).mono ?_
  rintro e w0 ⟨rfl, rfl⟩
  go_wp2_with fail
  refine (takeS_none _ c2 room H.out.slow).mono ?_
  rintro e w0 ⟨rfl, rfl⟩
  go_wp2
  go_ret2
  exact ⟨rfl, rfl⟩

set_option maxHeartbeats 400000 in
theorem lostS {w : World} {b c1 c2 room lost : Nat} {F S : List (Nat × Value)} (h : HS w b c1 c2 room F S lost) :
    Calls Try.prog 24 #[.pointer (some ⟨b, 0, none⟩)] w fun e w' => e = .returned (.int .i64 (lost : Int)) ∧ w' = w := by
  obtain ⟨d0, d1, d2, f0, f1, f2⟩ := three_cells h.head
  clear h
  go_enter Try.func24, Try.ntmps24
  go_wp2
  go_ret
  exact ⟨rfl, rfl⟩

set_option maxHeartbeats 1000000 in
set_option maxRecDepth 100000 in
theorem lenHS {w : World} {b c1 c2 room lost : Nat} {F S : List (Nat × Value)} (h : HS w b c1 c2 room F S lost) :
    Calls Try.prog 26 #[.pointer (some ⟨b, 0, none⟩)] w fun e w' => e = .returned (.tuple #[.int .i64 (F.length : Int), .int .i64 (S.length : Int)]) ∧ Turn [] w w' := by
  obtain ⟨d0, d1, d2, f0, f1, f2⟩ := three_cells h.head
  have l1 := fun ty => lenS w ty h.fast
  have l2 := fun ty => lenS w ty h.slow
  have l3 := fun ty => lenS w.drew ty (h.fast.turn (Turn.drew [] w) (by simp) (by simp))
  have l4 := fun ty => lenS w.drew ty (h.slow.turn (Turn.drew [] w) (by simp) (by simp))
  clear h
  generalize F.length = nf at *
  generalize S.length = ns at *
  go_enter Try.func26, Try.ntmps26
  go_wp2_with fail
  go_region
  go_wp2
  go_ret2
  exact ⟨rfl, Turn.drew [] w⟩

theorem mkS (n : Nat) (hn : n ≤ 64) (w : World) : (Instr.makeChan 62 (.int .i64 (n : Int))).run Try.prog w = .ok (.chan (some w.heap.size)) (w.alloc (.chan n #[] false 0 0 false)) := by
  have hu : (Try.prog.underlying 62).map (fun d => match d with | .chan _ e => some e | _ => none) = some (some 65) := by kernel_rfl
  obtain ⟨d, hd, hc⟩ := Option.map_eq_some_iff.1 hu
  have hi : (Try.prog.info? 65).map (·.bytes) = some 8 := by kernel_rfl
  obtain ⟨i, hi, hb⟩ := Option.map_eq_some_iff.1 hi
  cases d <;> simp at hc
  subst hc
  exact run_makeChan (P := Try.prog) (w := w) hd hi .i64 n (by omega) (by rw [hb]; omega)

set_option maxHeartbeats 4000000 in
set_option maxRecDepth 100000 in
theorem newS (n : Int) (w : World) :
    Calls Try.prog 21 #[.int .i64 n] w fun e w' => ∃ b c1 c2, e = .returned (.pointer (some ⟨b, 0, none⟩)) ∧ HS w' b c1 c2 (roomOf n) [] [] 0 ∧ Turn [] w w' ∧ w.heap.size ≤ b ∧ w.heap.size ≤ c1 ∧ w.heap.size ≤ c2 := by
  obtain ⟨r0, r1, r2⟩ := roomOf_is n
  have hmk := mkS (roomOf n) r2
  have hn : min (max n 1) 64 = ((roomOf n : Nat) : Int) := by rw [r0]; omega
  generalize roomOf n = m at *
  clear r0 r1 r2
  go_enter Try.func21, Try.ntmps21
  go_wp2_with fail
  go_region
  all_goals (go_wp2; go_ret)
  · obtain ⟨h1, h2⟩ := made 64 9 w m w.heap.size (w.heap.size + 1) (.inl ⟨rfl, rfl⟩)
    exact ⟨_, _, _, rfl, h1, h2, by omega, by omega, by omega⟩
  · obtain ⟨h1, h2⟩ := made 64 9 w m (w.heap.size + 1) w.heap.size (.inr ⟨rfl, rfl⟩)
    exact ⟨_, _, _, rfl, h1, h2, by omega, by omega, by omega⟩

end Go.Proofs.Ytijpfahiedggmaa
