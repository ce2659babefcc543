/-
  A lane's put and take, of texts.
-/
import Derived.Test.YtijpfahiedggmaaLane
namespace Go.Proofs.Ytijpfahiedggmaa
open Go.RowKit Go.Conc

set_option maxHeartbeats 1000000 in
set_option maxRecDepth 100000 in
theorem putS_room (w : World) (c room : Nat) (L : List (Nat × Value)) (x : ByteArray) (h : Lane 9 w c room L) (hr : L.length < room) :
    Calls Try.prog 34 #[.chan (some c), .string x] w fun e w' => e = .returned (.bool true) ∧ Turn [c] w w' ∧ Lane 9 w' c room (L ++ [(w.heap.size, .string x)]) := by
  obtain ⟨⟨s, r, h1⟩, h2⟩ := id h
  refine calls_of_loneTo fun cs => ?_
  have e : Frame.enter Try.prog 34 #[.chan (some c), .string x] .normal = (base 34).at ⟨#[.chan (some c), .string x, undef, undef, undef, undef, undef, undef, undef], []⟩ [.code (Try.f34.body.getD .skip)] := by
    simp [Frame.enter, Frame.at, Try.func34, base, Try.f34]
  rw [e]
  refine LoneTo.goes (n := 20) ?_
  simp only [Try.f34, Option.getD_some]
  s_c stepG_seq
  s_reg
  s_op
  s_op
  s_c stepG_region_end
  s_c stepG_seq
  s_reg
  s_op
  s_c stepG_region_end
  s_c stepG_seq
  s_reg
  s_stop
  have h1' : (w.alloc (.cells #[.string x] 9 (0, 0))).heap[c]? = some (.chan room (List.map (fun p => pt p.fst) L).toArray false s r false) := (Turn.alloc [] w _).heap h1 (by simp)
  refine LoneTo.step (step_lone_select_send_room (c := c) (v := pt w.heap.size) (z' := .pointer none) (cap := room) (buf := (List.map (fun p => pt p.fst) L).toArray) (s := s) (r := r) (tm := false) (stepG_comm (cases := #[scase c (pt w.heap.size) (.pointer none)]) (blocking := false) (shape := .select) (w' := w.alloc (.cells #[.string x] 9 (0, 0))) rfl rfl (by decide) (by simp [go_sem, execOp, scase, Act.eval, pt])) h1' (by simpa using hr)) ?_
  rw [Frame.finish_at]
  walk_nrm
  refine LoneTo.goes (n := 20) ?_
  s_op
  s_op
  s_c stepG_region_end
  s_c stepG_block
  s_cond true
  s_c stepG_seq
  s_reg
  s_op
  s_c stepG_region_end
  s_c stepG_ret'
  s_stop
  refine LoneTo.done ⟨.returned (.bool true), _, rfl, ⟨rfl, ?_, by simpa using h.put (.string x) (s := s + 1) (r := r)⟩, rfl, rfl, rfl, rfl, _, Try.func34, by simp [results, Try.f34, Frame.at]⟩
  exact ((Turn.alloc [] w _).mono (by simp)).trans (Turn.setChan _ _ _ _ _ _ _ _) (by simp)

set_option maxHeartbeats 1000000 in
set_option maxRecDepth 100000 in
theorem putS_full (w : World) (c room : Nat) (L : List (Nat × Value)) (x : ByteArray) (h : Lane 9 w c room L) (hr : room ≤ L.length) :
    Calls Try.prog 34 #[.chan (some c), .string x] w fun e w' => e = .returned (.bool false) ∧ Turn [] w w' := by
  obtain ⟨⟨s, r, h1⟩, h2⟩ := id h
  refine calls_of_loneTo fun cs => ?_
  have e : Frame.enter Try.prog 34 #[.chan (some c), .string x] .normal = (base 34).at ⟨#[.chan (some c), .string x, undef, undef, undef, undef, undef, undef, undef], []⟩ [.code (Try.f34.body.getD .skip)] := by
    simp [Frame.enter, Frame.at, Try.func34, base, Try.f34]
  rw [e]
  refine LoneTo.goes (n := 20) ?_
  simp only [Try.f34, Option.getD_some]
  s_c stepG_seq
  s_reg
  s_op
  s_op
  s_c stepG_region_end
  s_c stepG_seq
  s_reg
  s_op
  s_c stepG_region_end
  s_c stepG_seq
  s_reg
  s_stop
  have h1' : (w.alloc (.cells #[.string x] 9 (0, 0))).heap[c]? = some (.chan room (List.map (fun p => pt p.fst) L).toArray false s r false) := (Turn.alloc [] w _).heap h1 (by simp)
  refine LoneTo.step (step_lone_select_send_full (c := c) (v := pt w.heap.size) (z' := .pointer none) (cap := room) (buf := (List.map (fun p => pt p.fst) L).toArray) (s := s) (r := r) (tm := false) (stepG_comm (cases := #[scase c (pt w.heap.size) (.pointer none)]) (blocking := false) (shape := .select) (w' := w.alloc (.cells #[.string x] 9 (0, 0))) rfl rfl (by decide) (by simp [go_sem, execOp, scase, Act.eval, pt])) h1' (by simpa using hr)) ?_
  rw [Frame.finish_at]
  walk_nrm
  refine LoneTo.goes (n := 20) ?_
  s_op
  s_op
  s_c stepG_region_end
  s_c stepG_block
  s_cond false
  s_c stepG_seq
  s_reg
  s_op
  s_c stepG_region_end
  s_c stepG_ret'
  s_stop
  refine LoneTo.done ⟨.returned (.bool false), _, rfl, ⟨rfl, ?_⟩, rfl, rfl, rfl, rfl, _, Try.func34, by simp [results, Try.f34, Frame.at]⟩
  exact Turn.alloc [] w _

set_option maxHeartbeats 1000000 in
set_option maxRecDepth 100000 in
theorem takeS_some (w : World) (c room : Nat) (L : List (Nat × Value)) (p : Nat × Value) (h : Lane 9 w c room (p :: L)) :
    Calls Try.prog 35 #[.chan (some c)] w fun e w' => e = .returned (pt p.1) ∧ Turn [c] w w' ∧ Lane 9 w' c room L := by
  obtain ⟨⟨s, r, h1⟩, h2⟩ := id h
  refine calls_of_loneTo fun cs => ?_
  have e : Frame.enter Try.prog 35 #[.chan (some c)] .normal = (base 35).at ⟨#[.chan (some c), undef, undef, undef, undef, undef, undef, undef, undef, undef], []⟩ [.code (Try.f35.body.getD .skip)] := by
    simp [Frame.enter, Frame.at, Try.func35, base, Try.f35]
  rw [e]
  refine LoneTo.goes (n := 20) ?_
  simp only [Try.f35, Option.getD_some]
  s_c stepG_seq
  s_reg
  s_op
  s_c stepG_region_end
  s_c stepG_seq
  s_reg
  s_op
  s_c stepG_region_end
  s_c stepG_seq
  s_reg
  s_stop
  refine LoneTo.step (step_lone_select_recv_buf (c := c) (z := .pointer none) (cap := room) (buf := (List.map (fun p => pt p.fst) (p :: L)).toArray) (closed := false) (s := s) (r := r) (tm := false) (stepG_comm (cases := #[rcase c (.pointer none)]) (blocking := false) (shape := .select) (w' := w) rfl rfl (by decide) (by simp [go_sem, execOp, rcase, Act.eval])) h1 (by simp)) ?_
  rw [Frame.finish_at]
  walk_nrm
  refine LoneTo.goes (n := 20) ?_
  s_op
  s_op
  s_c stepG_region_end
  s_c stepG_block
  s_cond true
  s_c stepG_seq
  s_reg
  s_op
  s_op
  s_c stepG_region_end
  s_c stepG_seq
  s_reg
  s_op
  s_op
  s_c stepG_region_end
  s_c stepG_ret'
  s_stop
  refine LoneTo.done ⟨.returned (pt p.1), _, rfl, ⟨rfl, Turn.setChan _ _ _ _ _ _ _ _, by simpa using h.take (s := s) (r := r + 1)⟩, rfl, rfl, rfl, rfl, _, Try.func35, by simp [results, Try.f35, Frame.at]⟩

set_option maxHeartbeats 1000000 in
set_option maxRecDepth 100000 in
theorem takeS_none (w : World) (c room : Nat) (h : Lane 9 w c room []) :
    Calls Try.prog 35 #[.chan (some c)] w fun e w' => e = .returned (.pointer none) ∧ w' = w := by
  obtain ⟨⟨s, r, h1⟩, h2⟩ := id h
  refine calls_of_loneTo fun cs => ?_
  have e : Frame.enter Try.prog 35 #[.chan (some c)] .normal = (base 35).at ⟨#[.chan (some c), undef, undef, undef, undef, undef, undef, undef, undef, undef], []⟩ [.code (Try.f35.body.getD .skip)] := by
    simp [Frame.enter, Frame.at, Try.func35, base, Try.f35]
  rw [e]
  refine LoneTo.goes (n := 20) ?_
  simp only [Try.f35, Option.getD_some]
  s_c stepG_seq
  s_reg
  s_op
  s_c stepG_region_end
  s_c stepG_seq
  s_reg
  s_op
  s_c stepG_region_end
  s_c stepG_seq
  s_reg
  s_stop
  refine LoneTo.step (step_lone_select_default (c := c) (z := .pointer none) (cap := room) (s := s) (r := r) (tm := false) (stepG_comm (cases := #[rcase c (.pointer none)]) (blocking := false) (shape := .select) (w' := w) rfl rfl (by decide) (by simp [go_sem, execOp, rcase, Act.eval])) h1) ?_
  rw [Frame.finish_at]
  walk_nrm
  refine LoneTo.goes (n := 20) ?_
  s_op
  s_op
  s_c stepG_region_end
  s_c stepG_block
  s_cond false
  s_c stepG_seq
  s_reg
  s_op
  s_c stepG_region_end
  s_c stepG_ret'
  s_stop
  refine LoneTo.done ⟨.returned (.pointer none), _, rfl, ⟨rfl, rfl⟩, rfl, rfl, rfl, rfl, _, Try.func35, by simp [results, Try.f35, Frame.at]⟩

end Go.Proofs.Ytijpfahiedggmaa
