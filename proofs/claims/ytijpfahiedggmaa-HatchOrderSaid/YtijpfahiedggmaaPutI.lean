/-
  A lane's put and take, of numbers.
-/
import Derived.Test.YtijpfahiedggmaaLane
namespace Go.Proofs.Ytijpfahiedggmaa
open Go.RowKit Go.Conc

set_option maxHeartbeats 1000000 in
set_option maxRecDepth 100000 in
theorem putI_room (w : World) (c room : Nat) (L : List (Nat × Value)) (x : Int) (h : Lane 3 w c room L) (hr : L.length < room) :
    Calls Try.prog 28 #[.chan (some c), .int .i64 x] w fun e w' => e = .returned (.bool true) ∧ Turn [c] w w' ∧ Lane 3 w' c room (L ++ [(w.heap.size, .int .i64 x)]) := by
  obtain ⟨⟨s, r, h1⟩, h2⟩ := id h
  refine calls_of_loneTo fun cs => ?_
  have e : Frame.enter Try.prog 28 #[.chan (some c), .int .i64 x] .normal = (base 28).at ⟨#[.chan (some c), .int .i64 x, undef, undef, undef, undef, undef, undef, undef], []⟩ [.code (Try.f28.body.getD .skip)] := by
    simp [Frame.enter, Frame.at, Try.func28, base, Try.f28]
  rw [e]
  refine LoneTo.goes (n := 20) ?_
  simp only [Try.f28, Option.getD_some]
  s_c stepG_seq
  s_reg
  s_op
  s_op
  s_c stepG_region_end
  s_c stepG_seq
  s_reg
  s_op
  s_c stepG_region_end
  s_c stepG_seq
  s_reg
  s_stop
  have h1' : (w.alloc (.cells #[.int .i64 x] 3 (0, 0))).heap[c]? = some (.chan room (List.map (fun p => pt p.fst) L).toArray false s r false) := (Turn.alloc [] w _).heap h1 (by simp)
  refine LoneTo.step (step_lone_select_send_room (c := c) (v := pt w.heap.size) (z' := .pointer none) (cap := room) (buf := (List.map (fun p => pt p.fst) L).toArray) (s := s) (r := r) (tm := false) (stepG_comm (cases := #[scase c (pt w.heap.size) (.pointer none)]) (blocking := false) (shape := .select) (w' := w.alloc (.cells #[.int .i64 x] 3 (0, 0))) rfl rfl (by decide) (by simp [go_sem, execOp, scase, Act.eval, pt])) h1' (by simpa using hr)) ?_
  rw [Frame.finish_at]
  walk_nrm
  refine LoneTo.goes (n := 20) ?_
  s_op
  s_op
  s_c stepG_region_end
  s_c stepG_block
  s_cond true
  s_c stepG_seq
  s_reg
  s_op
  s_c stepG_region_end
  s_c stepG_ret'
  s_stop
  refine LoneTo.done ⟨.returned (.bool true), _, rfl, ⟨rfl, ?_, by simpa using h.put (.int .i64 x) (s := s + 1) (r := r)⟩, rfl, rfl, rfl, rfl, _, Try.func28, by simp [results, Try.f28, Frame.at]⟩
  exact ((Turn.alloc [] w _).mono (by simp)).trans (Turn.setChan _ _ _ _ _ _ _ _) (by simp)

set_option maxHeartbeats 1000000 in
set_option maxRecDepth 100000 in
theorem putI_full (w : World) (c room : Nat) (L : List (Nat × Value)) (x : Int) (h : Lane 3 w c room L) (hr : room ≤ L.length) :
    Calls Try.prog 28 #[.chan (some c), .int .i64 x] w fun e w' => e = .returned (.bool false) ∧ Turn [] w w' := by
  obtain ⟨⟨s, r, h1⟩, h2⟩ := id h
  refine calls_of_loneTo fun cs => ?_
  have e : Frame.enter Try.prog 28 #[.chan (some c), .int .i64 x] .normal = (base 28).at ⟨#[.chan (some c), .int .i64 x, undef, undef, undef, undef, undef, undef, undef], []⟩ [.code (Try.f28.body.getD .skip)] := by
    simp [Frame.enter, Frame.at, Try.func28, base, Try.f28]
  rw [e]
  refine LoneTo.goes (n := 20) ?_
  simp only [Try.f28, Option.getD_some]
  s_c stepG_seq
  s_reg
  s_op
  s_op
  s_c stepG_region_end
  s_c stepG_seq
  s_reg
  s_op
  s_c stepG_region_end
  s_c stepG_seq
  s_reg
  s_stop
  have h1' : (w.alloc (.cells #[.int .i64 x] 3 (0, 0))).heap[c]? = some (.chan room (List.map (fun p => pt p.fst) L).toArray false s r false) := (Turn.alloc [] w _).heap h1 (by simp)
  refine LoneTo.step (step_lone_select_send_full (c := c) (v := pt w.heap.size) (z' := .pointer none) (cap := room) (buf := (List.map (fun p => pt p.fst) L).toArray) (s := s) (r := r) (tm := false) (stepG_comm (cases := #[scase c (pt w.heap.size) (.pointer none)]) (blocking := false) (shape := .select) (w' := w.alloc (.cells #[.int .i64 x] 3 (0, 0))) rfl rfl (by decide) (by simp [go_sem, execOp, scase, Act.eval, pt])) h1' (by simpa using hr)) ?_
  rw [Frame.finish_at]
  walk_nrm
  refine LoneTo.goes (n := 20) ?_
  s_op
  s_op
  s_c stepG_region_end
  s_c stepG_block
  s_cond false
  s_c stepG_seq
  s_reg
  s_op
  s_c stepG_region_end
  s_c stepG_ret'
  s_stop
  refine LoneTo.done ⟨.returned (.bool false), _, rfl, ⟨rfl, ?_⟩, rfl, rfl, rfl, rfl, _, Try.func28, by simp [results, Try.f28, Frame.at]⟩
  exact Turn.alloc [] w _

set_option maxHeartbeats 1000000 in
set_option maxRecDepth 100000 in
theorem takeI_some (w : World) (c room : Nat) (L : List (Nat × Value)) (p : Nat × Value) (h : Lane 3 w c room (p :: L)) :
    Calls Try.prog 29 #[.chan (some c)] w fun e w' => e = .returned (pt p.1) ∧ Turn [c] w w' ∧ Lane 3 w' c room L := by
  obtain ⟨⟨s, r, h1⟩, h2⟩ := id h
  refine calls_of_loneTo fun cs => ?_
  have e : Frame.enter Try.prog 29 #[.chan (some c)] .normal = (base 29).at ⟨#[.chan (some c), undef, undef, undef, undef, undef, undef, undef, undef, undef], []⟩ [.code (Try.f29.body.getD .skip)] := by
    simp [Frame.enter, Frame.at, Try.func29, base, Try.f29]
  rw [e]
  refine LoneTo.goes (n := 20) ?_
  simp only [Try.f29, Option.getD_some]
  s_c stepG_seq
  s_reg
  s_op
  s_c stepG_region_end
  s_c stepG_seq
  s_reg
  s_op
  s_c stepG_region_end
  s_c stepG_seq
  s_reg
  s_stop
  refine LoneTo.step (step_lone_select_recv_buf (c := c) (z := .pointer none) (cap := room) (buf := (List.map (fun p => pt p.fst) (p :: L)).toArray) (closed := false) (s := s) (r := r) (tm := false) (stepG_comm (cases := #[rcase c (.pointer none)]) (blocking := false) (shape := .select) (w' := w) rfl rfl (by decide) (by simp [go_sem, execOp, rcase, Act.eval])) h1 (by simp)) ?_
  rw [Frame.finish_at]
  walk_nrm
  refine LoneTo.goes (n := 20) ?_
  s_op
  s_op
  s_c stepG_region_end
  s_c stepG_block
  s_cond true
  s_c stepG_seq
  s_reg
  s_op
  s_op
  s_c stepG_region_end
  s_c stepG_seq
  s_reg
  s_op
  s_op
  s_c stepG_region_end
  s_c stepG_ret'
  s_stop
  refine LoneTo.done ⟨.returned (pt p.1), _, rfl, ⟨rfl, Turn.setChan _ _ _ _ _ _ _ _, by simpa using h.take (s := s) (r := r + 1)⟩, rfl, rfl, rfl, rfl, _, Try.func29, by simp [results, Try.f29, Frame.at]⟩

set_option maxHeartbeats 1000000 in
set_option maxRecDepth 100000 in
theorem takeI_none (w : World) (c room : Nat) (h : Lane 3 w c room []) :
    Calls Try.prog 29 #[.chan (some c)] w fun e w' => e = .returned (.pointer none) ∧ w' = w := by
  obtain ⟨⟨s, r, h1⟩, h2⟩ := id h
  refine calls_of_loneTo fun cs => ?_
  have e : Frame.enter Try.prog 29 #[.chan (some c)] .normal = (base 29).at ⟨#[.chan (some c), undef, undef, undef, undef, undef, undef, undef, undef, undef], []⟩ [.code (Try.f29.body.getD .skip)] := by
    simp [Frame.enter, Frame.at, Try.func29, base, Try.f29]
  rw [e]
  refine LoneTo.goes (n := 20) ?_
  simp only [Try.f29, Option.getD_some]
  s_c stepG_seq
  s_reg
  s_op
  s_c stepG_region_end
  s_c stepG_seq
  s_reg
  s_op
  s_c stepG_region_end
  s_c stepG_seq
  s_reg
  s_stop
  refine LoneTo.step (step_lone_select_default (c := c) (z := .pointer none) (cap := room) (s := s) (r := r) (tm := false) (stepG_comm (cases := #[rcase c (.pointer none)]) (blocking := false) (shape := .select) (w' := w) rfl rfl (by decide) (by simp [go_sem, execOp, rcase, Act.eval])) h1) ?_
  rw [Frame.finish_at]
  walk_nrm
  refine LoneTo.goes (n := 20) ?_
  s_op
  s_op
  s_c stepG_region_end
  s_c stepG_block
  s_cond false
  s_c stepG_seq
  s_reg
  s_op
  s_c stepG_region_end
  s_c stepG_ret'
  s_stop
  refine LoneTo.done ⟨.returned (.pointer none), _, rfl, ⟨rfl, rfl⟩, rfl, rfl, rfl, rfl, _, Try.func29, by simp [results, Try.f29, Frame.at]⟩

end Go.Proofs.Ytijpfahiedggmaa
