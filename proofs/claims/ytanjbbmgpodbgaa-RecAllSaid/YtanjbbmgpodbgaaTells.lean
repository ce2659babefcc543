/-
  The walk of the law's own tells: bytes are a record's, just its, or none's.
-/
import Derived.Test.YtanjbbmgpodbgaaRecOwnWalk
import Derived.Test.YtanjbbmgpodbgaaKindNamesWalk
namespace Go.Proofs.Ytanjbbmgpodbgaa
open Go.RowKit

theorem Sl.turn {w w' : World} {ao : Option Addr} {c : Nat} {l : List UInt8} (h : Sl w ao c l) (t : Turn [] w w') : Sl w' ao c l := h.belowAll t.belowAll

/-- A record that may be is short. -/
theorem rec_short {r : RecV} (h : recB r = true) : r.parts.length ≤ 10 ∧ r.puts.length ≤ 12 ∧ ∀ i, i < r.puts.length → (r.puts.getD i putNone).1.size ≤ 100 ∧ (r.puts.getD i putNone).2.size ≤ 100 := by
  obtain ⟨-, -, -, -, -, -, -, -, h1, -, h2, h3⟩ := recB_says h
  exact ⟨by omega, by omega, fun i hi => by have := putB_sizes (h3 i hi); omega⟩

set_option maxHeartbeats 8000000 in
set_option maxRecDepth 100000 in
theorem tells_calls (F : RecFace) (l : List UInt8) (w : World) (ao : Option Addr) (c : Nat) (h : Sl w ao c l) :
    Calls Try.prog 41 #[.slice ao l.length c] w fun e w' => e = .returned (.bool true) ∧ Turn [] w w' := by
  have CD := Lib.hid (F.dec l w ao c h)
  have HSL := Lib.hid h
  have hlen := h.le
  obtain ⟨n, hn⟩ : ∃ n, n = l.length := ⟨_, rfl⟩
  have HN := Lib.hid hn
  rw [← hn] at CD ⊢
  clear h hn hlen
  go_enter Try.func41, Try.ntmps41
  go_wp2_with fail
  refine CD.out.mono ?_
  rintro e x3 ⟨x, ap, cp, aq, cq, err, rfl, hp, hq, hf, -, -, t3, hx⟩
  have T3 := Lib.hid t3
  have HP := Lib.hid hp
  have HQ := Lib.hid hq
  have HF := Lib.hid hf
  rcases hx with ⟨rfl, hr, hby⟩ | ⟨rfl, rfl, -⟩
  · have HCS : Hid (∀ a b c d, x.cells a b c d = #[.int .i64 x.kind, .int .i64 x.tid, .int .i64 x.id, .bool x.yes, .slice a x.parts.length b, .slice c x.puts.length d]) := Lib.hid (fun _ _ _ _ => rfl)
    have CR := Lib.hid (fun wx (tx : Turn [] x3 wx) => refRecord_calls x (hp.turn tx) (hq.turn tx))
    have CB := Lib.hid (fun wx (tx : Turn [] x3 wx) => refBytes_calls x (hp.turn tx) (hq.turn tx) hf.1 (rec_short hr).1 (rec_short hr).2.1 (rec_short hr).2.2)
    rw [hby] at CB
    rw [hr] at CR
    have CV : Hid (∀ wx, Turn [] x3 wx → (convert 24 9 (.slice ao n c)).run Try.prog wx = .ok (.string ⟨l.toArray⟩) wx) := Lib.hid (fun wx tx => conv_sl ((HSL.out.turn T3.out).turn tx) HN.out)
    rw [HCS.out] at CR CB ⊢
    generalize x.kind = rk at *
    generalize x.tid = rt at *
    generalize x.id = rd at *
    generalize x.yes = ry at *
    generalize x.parts.length = rnp at *
    generalize x.puts.length = rnq at *
    clear t3 hp hq hf hr hby HCS HP HQ HF CD
    go_wp2_with fail
    obtain ⟨q4, hq4⟩ : ∃ q4, q4 = x3.heap.size := ⟨_, rfl⟩
    obtain ⟨x4, hx4⟩ : ∃ x4, x4 = x3.alloc (.cells #[.int .i64 rk, .int .i64 rt, .int .i64 rd, .bool ry, .slice ap rnp cp, .slice aq rnq cq] 38) := ⟨_, rfl⟩
    have t4 : Turn [] x3 x4 := by rw [hx4]; exact Turn.alloc [] x3 _
    have b4 : x4.heap[q4]? = some (.cells #[.int .i64 rk, .int .i64 rt, .int .i64 rd, .bool ry, .slice ap rnp cp, .slice aq rnq cq] 38) := by rw [hx4, hq4]; exact heap_alloc_new x3 _
    rw [← hx4, ← hq4]
    have HB := Lib.hid (fun wx (tx : Turn [] x4 wx) => tx.heap b4 (by simp))
    have T34 := Lib.hid t4
    have CR4 := Lib.hid (fun wx (tx : Turn [] x4 wx) => CR.out wx (T34.out.trans tx (by simp)))
    have CB4 := Lib.hid (fun wx (tx : Turn [] x4 wx) => CB.out wx (T34.out.trans tx (by simp)))
    have CV4 := Lib.hid (fun wx (tx : Turn [] x4 wx) => CV.out wx (T34.out.trans tx (by simp)))
    obtain ⟨z0, z1, z2, z3, z4, z5⟩ := six_of b4
    have cv0 := CV4.out x4.drew (Turn.drew _ _)
    clear hq4 hx4 t4 b4 CR CB CV
    go_region_held_law (fun w' => w'.cell? ⟨q4, 0, none⟩ = some (.int .i64 rk) ∧ w'.cell? ⟨q4, 1, none⟩ = some (.int .i64 rt) ∧ w'.cell? ⟨q4, 2, none⟩ = some (.int .i64 rd) ∧ w'.cell? ⟨q4, 3, none⟩ = some (.bool ry) ∧ w'.cell? ⟨q4, 4, none⟩ = some (.slice ap rnp cp) ∧ w'.cell? ⟨q4, 5, none⟩ = some (.slice aq rnq cq) ∧ (convert 24 9 (.slice ao n c)).run Try.prog w' = .ok (.string ⟨l.toArray⟩) w')
      (first | go_keep | exact ⟨z0, z1, z2, z3, z4, z5, cv0⟩ | exact ⟨f0, f1, f2, f3, f4, f5, cv5⟩ | exact ⟨g0, g1, g2, g3, g4, g5, cv6⟩)
      (first
        | (go_at_call 32; ((with_reducible refine (CR4.out _ (Turn.drew [] x4)).mono ?_); rintro e w5 ⟨rfl, t5⟩; have S5 := Lib.hid ((Turn.drew [] x4).trans t5 (by simp)); obtain ⟨f0, f1, f2, f3, f4, f5⟩ := six_of (HB.out w5 S5.out); have cv5 := CV4.out w5 S5.out; clear t5))
        | (go_at_call 39; ((with_reducible refine (CB4.out _ S5.out).mono ?_); rintro e w6 ⟨v, rfl, ho, t6⟩; have S6 := Lib.hid (S5.out.trans t6 (by simp)); obtain ⟨g0, g1, g2, g3, g4, g5⟩ := six_of (HB.out w6 S6.out); have cv6 := CV4.out w6 S6.out; obtain ⟨av, cv, hv, hsv, -⟩ := Sl.of_owns ho; have ct := conv_sl hsv rfl; rw [← HN.out] at hv ct; subst hv; clear t6 ho hsv)))
    go_wp2
    go_ret
    exact ⟨ret_bool (by simp), ((T3.out.trans T34.out (by simp)).trans S6.out (by simp))⟩
  · have CQ := Lib.hid (fun wx (tx : Turn [] x3 wx) => eqRecord_calls recNone recNone (w := wx) (p1 := ap) (c1 := cp) (q1 := aq) (e1 := cq) (p2 := none) (c2 := 0) (q2 := none) (e2 := 0) (hp.turn tx) (hq.turn tx) (.inl ⟨rfl, rfl, rfl⟩) (.inl ⟨rfl, rfl, rfl⟩))
    rw [(eqRecB_iff recNone recNone).2 rfl] at CQ
    unfold RecV.cells recNone at CQ
    unfold RecV.cells recNone
    dsimp only [List.length_nil] at CQ ⊢
    clear t3 hp hq hf HP HQ HF CD
    have T4 := Lib.hid (Turn.alloc [] x3 (.cells #[.int .i64 0, .int .i64 0, .int .i64 0, .bool false, .slice ap 0 cp, .slice aq 0 cq] 38))
    go_wp2_with fail
    refine (CQ.out _ T4.out).mono ?_
    rintro e x5 ⟨rfl, t5⟩
    have T5 := Lib.hid ((T3.out.trans T4.out (by simp)).trans t5 (by simp))
    clear t5
    go_wp2
    go_ret
    exact ⟨rfl, T5.out⟩

end Go.Proofs.Ytanjbbmgpodbgaa
