/-
  The walk of the law RecAll.
-/
import Derived.Test.YtanjbbmgpodbgaaRecAnyWalk
import Derived.Deep.CutRange
namespace Go.Proofs.Ytanjbbmgpodbgaa
open Go.RowKit

/-- A record in a box, all of it new. -/
structure Bx (w x : World) (q : Nat) (r : RecV) (ap : Option Addr) (cp : Nat) (aq : Option Addr) (cq : Nat) : Prop where
  box : x.heap[q]? = some (.cells (r.cells ap cp aq cq) 38)
  il : Il x ap cp r.parts
  ps : Ps x aq cq r.puts
  few : Few r
  turn : Turn [] w x

theorem Bx.on {w x x' : World} {q : Nat} {r : RecV} {ap aq : Option Addr} {cp cq : Nat} (h : Bx w x q r ap cp aq cq) (t : Turn [] x x') : Bx w x' q r ap cp aq cq :=
  ⟨t.heap h.box (by simp), h.il.turn t, h.ps.turn t, h.few, h.turn.trans t (by simp)⟩

theorem two_boxes {w x1 x2 x3 : World} {q : Nat} {ra rb : RecV} {pa qa pb qb : Option Addr} {ca da cb db : Nat} {a0 a1 a2 a3 a4 a5 b0 b1 b2 b3 b4 b5 : Value} (T3 : Turn [] w x3) (hq : q = w.heap.size)
    (ha : x3.heap[q]? = some (.cells #[a0, a1, a2, a3, a4, a5] 38)) (hb : x3.heap[q + 1]? = some (.cells #[b0, b1, b2, b3, b4, b5] 38))
    (hoa : RowsOf x1 x2 ra pa ca qa da) (t3 : Turn [] x2 x3) (hqs : q + 1 < x1.heap.size) (hx : x1.heap.size ≤ x2.heap.size) (hob : RowsOf x2 x3 rb pb cb qb db) (hfa : Few ra) (hfb : Few rb) :
    Bx w ((((((((((((x3.setCell ⟨q, 0, none⟩ (.int .i64 ra.kind)).setCell ⟨q, 1, none⟩ (.int .i64 ra.tid)).setCell ⟨q, 2, none⟩ (.int .i64 ra.id)).setCell ⟨q, 3, none⟩ (.bool ra.yes)).setCell ⟨q, 4, none⟩ (.slice pa ra.parts.length ca)).setCell ⟨q, 5, none⟩ (.slice qa ra.puts.length da)).setCell ⟨q + 1, 0, none⟩ (.int .i64 rb.kind)).setCell ⟨q + 1, 1, none⟩ (.int .i64 rb.tid)).setCell ⟨q + 1, 2, none⟩ (.int .i64 rb.id)).setCell ⟨q + 1, 3, none⟩ (.bool rb.yes)).setCell ⟨q + 1, 4, none⟩ (.slice pb rb.parts.length cb)).setCell ⟨q + 1, 5, none⟩ (.slice qb rb.puts.length db)) q ra pa ca qa da ∧
    Bx w ((((((((((((x3.setCell ⟨q, 0, none⟩ (.int .i64 ra.kind)).setCell ⟨q, 1, none⟩ (.int .i64 ra.tid)).setCell ⟨q, 2, none⟩ (.int .i64 ra.id)).setCell ⟨q, 3, none⟩ (.bool ra.yes)).setCell ⟨q, 4, none⟩ (.slice pa ra.parts.length ca)).setCell ⟨q, 5, none⟩ (.slice qa ra.puts.length da)).setCell ⟨q + 1, 0, none⟩ (.int .i64 rb.kind)).setCell ⟨q + 1, 1, none⟩ (.int .i64 rb.tid)).setCell ⟨q + 1, 2, none⟩ (.int .i64 rb.id)).setCell ⟨q + 1, 3, none⟩ (.bool rb.yes)).setCell ⟨q + 1, 4, none⟩ (.slice pb rb.parts.length cb)).setCell ⟨q + 1, 5, none⟩ (.slice qb rb.puts.length db)) (q + 1) rb pb cb qb db := by
  have ta := six_turn x3 q (.int .i64 ra.kind) (.int .i64 ra.tid) (.int .i64 ra.id) (.bool ra.yes) (.slice pa ra.parts.length ca) (.slice qa ra.puts.length da)
  have sa := six_stores ha (.int .i64 ra.kind) (.int .i64 ra.tid) (.int .i64 ra.id) (.bool ra.yes) (.slice pa ra.parts.length ca) (.slice qa ra.puts.length da)
  have hba := ta.heap hb (by simp)
  have hoa3 := hoa.turn t3 (fun k hk => by cases hk)
  have hoa4 := hoa3.turn ta (fun k hk => by simp at hk; omega)
  have hob4 := hob.turn ta (fun k hk => by simp at hk; omega)
  generalize ((((((x3.setCell ⟨q, 0, none⟩ (.int .i64 ra.kind)).setCell ⟨q, 1, none⟩ (.int .i64 ra.tid)).setCell ⟨q, 2, none⟩ (.int .i64 ra.id)).setCell ⟨q, 3, none⟩ (.bool ra.yes)).setCell ⟨q, 4, none⟩ (.slice pa ra.parts.length ca)).setCell ⟨q, 5, none⟩ (.slice qa ra.puts.length da)) = xa at ta sa hba hoa4 hob4 ⊢
  have tb := six_turn xa (q + 1) (.int .i64 rb.kind) (.int .i64 rb.tid) (.int .i64 rb.id) (.bool rb.yes) (.slice pb rb.parts.length cb) (.slice qb rb.puts.length db)
  have sb := six_stores hba (.int .i64 rb.kind) (.int .i64 rb.tid) (.int .i64 rb.id) (.bool rb.yes) (.slice pb rb.parts.length cb) (.slice qb rb.puts.length db)
  have hab := tb.heap sa (by simp)
  have hoa5 := hoa4.turn tb (fun k hk => by simp at hk; omega)
  have hob5 := hob4.turn tb (fun k hk => by simp at hk; omega)
  have TT := (T3.trans ta (fun i hi => .inr (by simp at hi; omega))).trans tb (fun i hi => .inr (by simp at hi; omega))
  exact ⟨⟨hab, hoa5.il hfa, hoa5.ps hfa, hfa, TT⟩, ⟨sb, hob5.il hfb, hob5.ps hfb, hfb, TT⟩⟩

/-- What Encode answers, in one form. -/
theorem enc_gen (F : RecFace) (r : RecV) {w : World} {ap aq : Option Addr} {cp cq : Nat} (hp : Il w ap cp r.parts) (hq : Ps w aq cq r.puts) (hf : r.fit) :
    Calls Try.prog 35 #[.agg (r.cells ap cp aq cq)] w fun e w' => ∃ a n c l, e = .returned (.slice a n c) ∧ n = l.length ∧ Sl w' a c l ∧ a.isNone = (!recB r) ∧ (recB r = true → l = recBytes r) ∧ Turn [] w w' := by
  refine (F.enc r w ap cp aq cq hp hq hf).mono ?_
  rintro e w' ⟨v, rfl, h1, h2, t⟩
  cases hr : recB r with
  | false => exact ⟨none, 0, 0, [], by rw [h2 hr], rfl, Sl.nil _, rfl, by simp, t⟩
  | true =>
    have hl := recBytes_long r
    obtain ⟨ao, c, hv, hs, -⟩ := Sl.of_owns (h1 hr)
    refine ⟨ao, _, c, recBytes r, by rw [hv], rfl, hs, ?_, fun _ => rfl, t⟩
    rcases hs with ⟨-, -, e⟩ | ⟨A, rfl, -⟩
    · rw [e] at hl; simp at hl
    · rfl

theorem eql_nil8 (w : World) (a : Option Addr) (n c : Nat) {r : Bool} (h : a.isNone = (!r)) : (binOp .eql 24 (.slice a n c) (.slice none 0 0)).run Try.prog w = .ok (.bool (!r)) w := by
  rw [← h]
  exact nil_test w a n c

set_option maxHeartbeats 8000000 in
set_option maxRecDepth 100000 in
theorem recAll_walk (F : RecFace) (a0 : RecV) (ap : Option Addr) (cp : Nat) (aq : Option Addr) (cq : Nat) {w : World} (wp : Il w ap cp a0.parts) (wq : Ps w aq cq a0.puts) (wk : okI a0.kind) (wt : okI a0.tid) (wi : okI a0.id)
    (b0 : RecV) (bp : Option Addr) (ep : Nat) (bq : Option Addr) (eq : Nat) (up : Il w bp ep b0.parts) (uq : Ps w bq eq b0.puts) (uk : okI b0.kind) (ut : okI b0.tid) (ui : okI b0.id) :
    Calls Try.prog 7 #[.agg (a0.cells ap cp aq cq), .agg (b0.cells bp ep bq eq)] w fun e w' => e = .returned (.bool true) ∧ Below w.heap.size w w' := by
  have CA := Lib.hid (fun wx (tx : Turn [] w wx) => lawCut_calls a0 (wp.turn tx) (wq.turn tx) ⟨wk, wt, wi⟩)
  have CB := Lib.hid (fun wx (tx : Turn [] w wx) => lawCut_calls b0 (up.turn tx) (uq.turn tx) ⟨uk, ut, ui⟩)
  generalize hra : recCut a0 = ra at CA
  generalize hrb : recCut b0 = rb at CB
  obtain ⟨rk, rt, rd, ry, RP, RQ⟩ := ra
  obtain ⟨sk, st, sd, sy, SP, SQ⟩ := rb
  clear hra hrb wk wt wi wp wq uk ut ui up uq
  obtain ⟨k, t, d, y, P, Q⟩ := a0
  obtain ⟨k', t', d', y', P', Q'⟩ := b0
  have hl : RecV.cells ⟨k, t, d, y, P, Q⟩ ap cp aq cq = #[.int .i64 k, .int .i64 t, .int .i64 d, .bool y, .slice ap P.length cp, .slice aq Q.length cq] := rfl
  have hl' : RecV.cells ⟨k', t', d', y', P', Q'⟩ bp ep bq eq = #[.int .i64 k', .int .i64 t', .int .i64 d', .bool y', .slice bp P'.length ep, .slice bq Q'.length eq] := rfl
  rw [hl] at CA
  rw [hl'] at CB
  rw [hl, hl']
  clear hl hl'
  have hr1 : ∀ a b c d, RecV.cells ⟨rk, rt, rd, ry, RP, RQ⟩ a b c d = #[.int .i64 rk, .int .i64 rt, .int .i64 rd, .bool ry, .slice a RP.length b, .slice c RQ.length d] := fun _ _ _ _ => rfl
  have hr2 : ∀ a b c d, RecV.cells ⟨sk, st, sd, sy, SP, SQ⟩ a b c d = #[.int .i64 sk, .int .i64 st, .int .i64 sd, .bool sy, .slice a SP.length b, .slice c SQ.length d] := fun _ _ _ _ => rfl
  simp only [hr1] at CA
  simp only [hr2] at CB
  have HR1 := Lib.hid hr1
  have HR2 := Lib.hid hr2
  clear hr1 hr2
  generalize P.length = np at *
  generalize Q.length = nq at *
  generalize P'.length = np' at *
  generalize Q'.length = nq' at *
  obtain ⟨q, hq⟩ : ∃ q, q = w.heap.size := ⟨_, rfl⟩
  obtain ⟨x0, hx0⟩ : ∃ x0, x0 = (w.alloc (.cells #[.int .i64 k, .int .i64 t, .int .i64 d, .bool y, .slice ap np cp, .slice aq nq cq] 38)).alloc (.cells #[.int .i64 k', .int .i64 t', .int .i64 d', .bool y', .slice bp np' ep, .slice bq nq' eq] 38) := ⟨_, rfl⟩
  have t0 : Turn [] w x0 := by rw [hx0]; exact (Turn.alloc [] w _).trans (Turn.alloc [] _ _) (by simp)
  have b0 : x0.heap[q]? = some (.cells #[.int .i64 k, .int .i64 t, .int .i64 d, .bool y, .slice ap np cp, .slice aq nq cq] 38) := by rw [hx0, hq]; exact heap_alloc2_old w _ _
  have p0 : x0.heap[q + 1]? = some (.cells #[.int .i64 k', .int .i64 t', .int .i64 d', .bool y', .slice bp np' ep, .slice bq nq' eq] 38) := by rw [hx0, hq]; exact heap_alloc2_new w _ _
  have T0 := Lib.hid t0
  have B0 := Lib.hid b0
  have P0 := Lib.hid p0
  clear t0 b0 p0
  go_enter Try.func7, Try.ntmps7
  go_wp2_with fail
  rw [← hx0, ← hq]
  have HQ := Lib.hid hq
  clear hx0 hq
  refine (begun8_calls F _).mono ?_
  rintro e x1 ⟨rfl, t1'⟩
  have T1 := Lib.hid (T0.out.trans t1' (by simp))
  have HBA := Lib.hid (fun wx (tx : Turn [] x1 wx) => tx.heap (t1'.heap B0.out (by simp)) (by simp))
  have hqs : q + 1 < x1.heap.size := Nat.lt_of_lt_of_le (lt_of_heap P0.out) t1'.size
  have HQS := Lib.hid hqs
  have HBB := Lib.hid (fun wx (tx : Turn [] x1 wx) => tx.heap (t1'.heap P0.out (by simp)) (by simp))
  obtain ⟨c0, c1, c2, c3, c4, c5⟩ := six_of (HBA.out x1 (Turn.refl _ _))
  obtain ⟨d0, d1, d2, d3, d4, d5⟩ := six_of (HBB.out x1 (Turn.refl _ _))
  clear t1' T0 B0 P0 hqs
  go_wp2_with fail
  go_cut [] from 14 to 17 (fun wx => ∃ pa ca qa da pb cb qb db, Bx w wx q ⟨rk, rt, rd, ry, RP, RQ⟩ pa ca qa da ∧ Bx w wx (q + 1) ⟨sk, st, sd, sy, SP, SQ⟩ pb cb qb db)
  case first =>
    go_region_with (first
      | (go_at_call 30; ((with_reducible refine (CA.out _ (T1.out.trans (Turn.drew [] x1) (by simp))).mono ?_); rintro e x2 ⟨pa, ca, qa, da, rfl, hoa, hfa, t2⟩; have S2 := Lib.hid ((Turn.drew [] x1).trans t2 (by simp)); have HOA := Lib.hid hoa; have HFA := Lib.hid hfa; obtain ⟨f0, f1, f2, f3, f4, f5⟩ := six_of (HBA.out x2 S2.out); obtain ⟨g0, g1, g2, g3, g4, g5⟩ := six_of (HBB.out x2 S2.out); clear t2 hoa hfa))
      | (go_at_call 30; ((with_reducible refine (CB.out _ (T1.out.trans S2.out (by simp))).mono ?_); rintro e x3 ⟨pb, cb, qb, db, rfl, hob, hfb, t3⟩; have T3 := Lib.hid t3; have S3 := Lib.hid (S2.out.trans t3 (by simp)); have HOB := Lib.hid hob; have HFB := Lib.hid hfb; have A3 := Lib.hid (HBA.out x3 S3.out); have B3 := Lib.hid (HBB.out x3 S3.out); obtain ⟨h0, h1, h2, h3, h4, h5⟩ := six_of A3.out; obtain ⟨i0, i1, i2, i3, i4, i5⟩ := six_of B3.out; have fra : (∀ j, x3.frozen? ⟨q, j, none⟩ = false) := (fun j => unfrozen_of A3.out); have frb : (∀ j, x3.frozen? ⟨q + 1, j, none⟩ = false) := (fun j => unfrozen_of B3.out); clear t3 hob hfb)))
    all_goals
      go_wp2_with fail
      go_meet
      exact ⟨pa, ca, qa, da, pb, cb, qb, db, two_boxes (ra := ⟨rk, rt, rd, ry, RP, RQ⟩) (rb := ⟨sk, st, sd, sy, SP, SQ⟩) (T1.out.trans S3.out (by simp)) HQ.out A3.out B3.out HOA.out T3.out HQS.out S2.out.size HOB.out HFA.out HFB.out⟩
  case rest =>
    obtain ⟨pa, ca, qa, da, pb, cb, qb, db, ha, hb⟩ := hcut
    have CEa := Lib.hid (fun wx (tx : Turn [] wc wx) => enc_gen F ⟨rk, rt, rd, ry, RP, RQ⟩ (ha.il.turn tx) (ha.ps.turn tx) ha.few.fit)
    have CEb := Lib.hid (fun wx (tx : Turn [] wc wx) => enc_gen F ⟨sk, st, sd, sy, SP, SQ⟩ (hb.il.turn tx) (hb.ps.turn tx) hb.few.fit)
    have CQ := Lib.hid (fun wx (tx : Turn [] wc wx) => eqRecord_calls ⟨rk, rt, rd, ry, RP, RQ⟩ ⟨sk, st, sd, sy, SP, SQ⟩ (ha.il.turn tx) (ha.ps.turn tx) (hb.il.turn tx) (hb.ps.turn tx))
    have CF := Lib.hid (fun wx (tx : Turn [] wc wx) => F.eq ⟨rk, rt, rd, ry, RP, RQ⟩ ⟨sk, st, sd, sy, SP, SQ⟩ wx _ _ _ _ _ _ _ _ (ha.il.turn tx) (ha.ps.turn tx) (hb.il.turn tx) (hb.ps.turn tx))
    have CR := Lib.hid (fun wx (tx : Turn [] wc wx) => refRecord_calls ⟨rk, rt, rd, ry, RP, RQ⟩ (ha.il.turn tx) (ha.ps.turn tx))
    have CY := Lib.hid (fun wx (tx : Turn [] wc wx) (hr : recB ⟨rk, rt, rd, ry, RP, RQ⟩ = true) => refBytes_calls ⟨rk, rt, rd, ry, RP, RQ⟩ (ha.il.turn tx) (ha.ps.turn tx) ha.few.fit.1 (rec_short hr).1 (rec_short hr).2.1 (rec_short hr).2.2)
    have CX := Lib.hid (fun wx (tx : Turn [] wc wx) p1 c1 q1 e1 (h1 : Il wx p1 c1 RP) (h2 : Ps wx q1 e1 RQ) => eqRecord_calls ⟨rk, rt, rd, ry, RP, RQ⟩ ⟨rk, rt, rd, ry, RP, RQ⟩ (p1 := p1) (c1 := c1) (q1 := q1) (e1 := e1) h1 h2 (ha.il.turn tx) (ha.ps.turn tx))
    have HIN : Hid (recB ⟨rk, rt, rd, ry, RP, RQ⟩ = true → ∀ x, recB x = true → recBytes x = recBytes ⟨rk, rt, rd, ry, RP, RQ⟩ → x = ⟨rk, rt, rd, ry, RP, RQ⟩) := Lib.hid (fun hr x h1 h2 => recBytes_inj h1 hr h2)
    have HNO : Hid (recB ⟨rk, rt, rd, ry, RP, RQ⟩ = true → ¬ ∀ x, recB x = true → recBytes x ≠ recBytes ⟨rk, rt, rd, ry, RP, RQ⟩) := Lib.hid (fun hr h => h _ hr rfl)
    have HLL : Hid (recB ⟨rk, rt, rd, ry, RP, RQ⟩ = true → recB ⟨sk, st, sd, sy, SP, SQ⟩ = true → (recBytes ⟨rk, rt, rd, ry, RP, RQ⟩ = recBytes ⟨sk, st, sd, sy, SP, SQ⟩ ↔ eqRecB ⟨rk, rt, rd, ry, RP, RQ⟩ ⟨sk, st, sd, sy, SP, SQ⟩ = true)) := Lib.hid (fun h1 h2 => by
      rw [eqRecB_iff]
      exact ⟨fun h => recBytes_inj h1 h2 h, fun h => by rw [h]⟩)
    have HBX := Lib.hid (fun wx (tx : Turn [] wc wx) => tx.heap ha.box (by simp))
    have HBY := Lib.hid (fun wx (tx : Turn [] wc wx) => tx.heap hb.box (by simp))
    have TW := Lib.hid ha.turn
    rw [(eqRecB_iff ⟨rk, rt, rd, ry, RP, RQ⟩ ⟨rk, rt, rd, ry, RP, RQ⟩).2 rfl] at CX
    simp only [HR1.out] at CEa CQ CF CR CY CX HBX
    simp only [HR2.out] at CEb CQ CF HBY
    generalize eqRecB ⟨rk, rt, rd, ry, RP, RQ⟩ ⟨sk, st, sd, sy, SP, SQ⟩ = sm at CQ CF HLL
    generalize recBytes ⟨rk, rt, rd, ry, RP, RQ⟩ = la at CEa CY HIN HNO HLL
    generalize recBytes ⟨sk, st, sd, sy, SP, SQ⟩ = lb at CEb HLL
    generalize hva : recB ⟨rk, rt, rd, ry, RP, RQ⟩ = va at CEa CR CY HIN HNO HLL
    generalize hvb : recB ⟨sk, st, sd, sy, SP, SQ⟩ = vb at CEb HLL
    have HX1 : Hid (∀ (x : RecV), x = ⟨rk, rt, rd, ry, RP, RQ⟩ → x.parts = RP ∧ x.puts = RQ ∧ ∀ a b c d, x.cells a b c d = #[.int .i64 rk, .int .i64 rt, .int .i64 rd, .bool ry, .slice a RP.length b, .slice c RQ.length d]) := Lib.hid (by rintro x rfl; exact ⟨rfl, rfl, fun _ _ _ _ => rfl⟩)
    generalize RP.length = nRP at *
    generalize RQ.length = nRQ at *
    generalize SP.length = nSP at *
    generalize SQ.length = nSQ at *
    obtain ⟨c0, c1, c2, c3, c4, c5⟩ := six_of (HBX.out wc (Turn.refl _ _))
    obtain ⟨d0, d1, d2, d3, d4, d5⟩ := six_of (HBY.out wc (Turn.refl _ _))
    clear ha hb HR1 HR2 CA CB HBA HBB T1 HQS hva hvb
    go_wp2_with fail
    go_region_held_law (fun w' => w'.cell? ⟨q, 0, none⟩ = some (.int .i64 rk) ∧ w'.cell? ⟨q, 1, none⟩ = some (.int .i64 rt) ∧ w'.cell? ⟨q, 2, none⟩ = some (.int .i64 rd) ∧ w'.cell? ⟨q, 3, none⟩ = some (.bool ry) ∧ w'.cell? ⟨q, 4, none⟩ = some (.slice pa nRP ca) ∧ w'.cell? ⟨q, 5, none⟩ = some (.slice qa nRQ da) ∧ w'.cell? ⟨q + 1, 0, none⟩ = some (.int .i64 sk) ∧ w'.cell? ⟨q + 1, 1, none⟩ = some (.int .i64 st) ∧ w'.cell? ⟨q + 1, 2, none⟩ = some (.int .i64 sd) ∧ w'.cell? ⟨q + 1, 3, none⟩ = some (.bool sy) ∧ w'.cell? ⟨q + 1, 4, none⟩ = some (.slice pb nSP cb) ∧ w'.cell? ⟨q + 1, 5, none⟩ = some (.slice qb nSQ db))
      (go_keep)
      (first
        | (go_at_call 35; ((with_reducible refine (CEa.out _ (Turn.drew [] wc)).mono ?_); rintro e x2 ⟨aa, na, cca, l2, rfl, hna, hsa, hia, hla, t2⟩; have S2 := Lib.hid ((Turn.drew [] wc).trans t2 (by simp)); have HNA := Lib.hid hna; have HSA := Lib.hid hsa; have HIA := Lib.hid hia; have HLA := Lib.hid hla; obtain ⟨f0, f1, f2, f3, f4, f5⟩ := six_of (HBX.out x2 S2.out); obtain ⟨g0, g1, g2, g3, g4, g5⟩ := six_of (HBY.out x2 S2.out); clear t2 hna hsa hia hla))
        | (go_at_call 35; ((with_reducible refine (CEb.out _ S2.out).mono ?_); rintro e x3 ⟨ab, nb, ccb, l3, rfl, hnb, hsb, hib, hlb, t3⟩; have S3 := Lib.hid (S2.out.trans t3 (by simp)); have HSA3 := Lib.hid (HSA.out.turn t3); have HNB := Lib.hid hnb; have HSB := Lib.hid hsb; have HIB := Lib.hid hib; have HLB := Lib.hid hlb; obtain ⟨h0, h1, h2, h3, h4, h5⟩ := six_of (HBX.out x3 S3.out); obtain ⟨i0, i1, i2, i3, i4, i5⟩ := six_of (HBY.out x3 S3.out); clear t3 hnb hsb hib hlb)))
    clear f0 f1 f2 f3 f4 f5 g0 g1 g2 g3 g4 g5
    go_wp2_with fail
    refine (CQ.out _ S3.out).mono ?_
    rintro e x4 ⟨rfl, t4⟩
    have S4 := Lib.hid (S3.out.trans t4 (by simp))
    have HSA4 := Lib.hid (HSA3.out.turn t4)
    have HSB4 := Lib.hid (HSB.out.turn t4)
    obtain ⟨j0, j1, j2, j3, j4, j5⟩ := six_of (HBX.out x4 S4.out)
    obtain ⟨k0, k1, k2, k3, k4, k5⟩ := six_of (HBY.out x4 S4.out)
    clear t4 h0 h1 h2 h3 h4 h5 i0 i1 i2 i3 i4 i5 HSA HSA3 HSB S2 S3
    go_wp2_with fail
    refine (CF.out _ S4.out).mono ?_
    rintro e x5 ⟨rfl, t5⟩
    have S5 := Lib.hid (S4.out.trans t5 (by simp))
    have HSA5 := Lib.hid (HSA4.out.turn t5)
    have HSB5 := Lib.hid (HSB4.out.turn t5)
    obtain ⟨f0, f1, f2, f3, f4, f5⟩ := six_of (HBX.out x5 S5.out)
    have nt := fun wx : World => neq_nil wx aa na cca HIA.out
    have nu := fun wx : World => eql_nil8 wx aa na cca HIA.out
    clear t5 j0 j1 j2 j3 j4 j5 k0 k1 k2 k3 k4 k5 HSA4 HSB4 S4
    go_wp2_with fail
    refine (CR.out _ S5.out).mono ?_
    rintro e x6 ⟨rfl, t6⟩
    have S6 := Lib.hid (S5.out.trans t6 (by simp))
    have hs6 := HSA5.out.turn t6
    have HSB6 := Lib.hid (HSB5.out.turn t6)
    clear t6 f0 f1 f2 f3 f4 f5 HSA5 HSB5 S5
    cases va with
    | false =>
      clear hs6
      go_wp2
      go_ret
      exact ⟨rfl, (TW.out.trans S6.out (by simp)).belowAll⟩
    | true =>
      have hl2 := HLA.out rfl
      subst hl2
      have CD := Lib.hid (F.dec l2 x6 aa cca hs6)
      have HS6 := Lib.hid hs6
      rw [← HNA.out] at CD
      clear hs6
      go_wp2_with fail
      refine CD.out.mono ?_
      rintro e x7 ⟨x, p7, c7, q7, e7, err, rfl, hp7, hq7, -, -, -, t7, hx⟩
      have hx2 : err = 0 ∧ x = ⟨rk, rt, rd, ry, RP, RQ⟩ := by
        rcases hx with ⟨h1, h2, h3⟩ | ⟨h1, h2, h3⟩
        · exact ⟨h1, HIN.out (by trivial) x h2 h3⟩
        · exact absurd h3 (HNO.out (by trivial))
      obtain ⟨rfl, hxr⟩ := hx2
      obtain ⟨hx3, hx4, hx5⟩ := HX1.out x hxr
      rw [hx3] at hp7
      rw [hx4] at hq7
      rw [hx5]
      clear hx hx3 hx4 hx5 hxr CD HIN HNO HX1
      go_wp2_with fail
      obtain ⟨q8, hq8⟩ : ∃ q8, q8 = x7.heap.size := ⟨_, rfl⟩
      obtain ⟨x8, hx8⟩ : ∃ x8, x8 = x7.alloc (.cells #[.int .i64 rk, .int .i64 rt, .int .i64 rd, .bool ry, .slice p7 nRP c7, .slice q7 nRQ e7] 38) := ⟨_, rfl⟩
      have t8 : Turn [] x7 x8 := by rw [hx8]; exact Turn.alloc [] x7 _
      have b8 : x8.heap[q8]? = some (.cells #[.int .i64 rk, .int .i64 rt, .int .i64 rd, .bool ry, .slice p7 nRP c7, .slice q7 nRQ e7] 38) := by rw [hx8, hq8]; exact heap_alloc_new x7 _
      rw [← hx8, ← hq8]
      have HZ := Lib.hid (fun wx (tx : Turn [] x8 wx) => tx.heap b8 (by simp))
      have T78 := t7.trans t8 (by simp)
      have Y8 := S6.out.trans T78 (by simp)
      have Y0 := Lib.hid (Y8.trans (Turn.drew [] x8) (by simp))
      have CVP : Hid (∀ wx, Turn [] x8 wx → (convert 24 9 (.slice aa na cca)).run Try.prog wx = .ok (.string ⟨l2.toArray⟩) wx) := Lib.hid (fun wx tx => conv_sl ((HS6.out.turn T78).turn tx) HNA.out)
      have CVQ : Hid (∀ wx, Turn [] x8 wx → (convert 24 9 (.slice ab nb ccb)).run Try.prog wx = .ok (.string ⟨l3.toArray⟩) wx) := Lib.hid (fun wx tx => conv_sl ((HSB6.out.turn T78).turn tx) HNB.out)
      have HIP : Hid (∀ wx, Turn [] x8 wx → Il wx p7 c7 RP ∧ Ps wx q7 e7 RQ) := Lib.hid (fun wx tx => ⟨(hp7.turn t8).turn tx, (hq7.turn t8).turn tx⟩)
      obtain ⟨z0, z1, z2, z3, z4, z5⟩ := six_of (HBX.out x8 Y8)
      obtain ⟨y0, y1, y2, y3, y4, y5⟩ := six_of b8
      have nq := fun wx : World => eql_nil8 wx ab nb ccb HIB.out
      have cp0 := CVP.out x8.drew (Turn.drew _ _)
      clear hq8 hx8 t8 b8 T78 Y8 hp7 hq7 t7 HS6 HSB6 nt nu CEa CEb CQ CF CR HBY
      cases vb with
      | false =>
        have cq0 := CVQ.out x8.drew (Turn.drew _ _)
        first | go_region_held_law (fun w' => w'.cell? ⟨q, 0, none⟩ = some (.int .i64 rk) ∧ w'.cell? ⟨q, 1, none⟩ = some (.int .i64 rt) ∧ w'.cell? ⟨q, 2, none⟩ = some (.int .i64 rd) ∧ w'.cell? ⟨q, 3, none⟩ = some (.bool ry) ∧ w'.cell? ⟨q, 4, none⟩ = some (.slice pa nRP ca) ∧ w'.cell? ⟨q, 5, none⟩ = some (.slice qa nRQ da) ∧ w'.cell? ⟨q8, 0, none⟩ = some (.int .i64 rk) ∧ w'.cell? ⟨q8, 1, none⟩ = some (.int .i64 rt) ∧ w'.cell? ⟨q8, 2, none⟩ = some (.int .i64 rd) ∧ w'.cell? ⟨q8, 3, none⟩ = some (.bool ry) ∧ w'.cell? ⟨q8, 4, none⟩ = some (.slice p7 nRP c7) ∧ w'.cell? ⟨q8, 5, none⟩ = some (.slice q7 nRQ e7) ∧ (convert 24 9 (.slice aa na cca)).run Try.prog w' = .ok (.string ⟨l2.toArray⟩) w' ∧ (convert 24 9 (.slice ab nb ccb)).run Try.prog w' = .ok (.string ⟨l3.toArray⟩) w')
          (first | go_keep | exact ⟨z0, z1, z2, z3, z4, z5, y0, y1, y2, y3, y4, y5, cp0, cq0⟩ | exact ⟨f0, f1, f2, f3, f4, f5, g0, g1, g2, g3, g4, g5, cp9, cq9⟩ | exact ⟨h0, h1, h2, h3, h4, h5, i0, i1, i2, i3, i4, i5, cpA, cqA⟩)
          (first
            | (go_at_call 39; ((with_reducible refine (CY.out _ Y0.out (by trivial)).mono ?_); rintro e x9 ⟨v, rfl, ho, t9⟩; have S9 := Lib.hid ((Turn.drew [] x8).trans t9 (by simp)); have Y9 := Lib.hid (Y0.out.trans t9 (by simp)); obtain ⟨f0, f1, f2, f3, f4, f5⟩ := six_of (HBX.out x9 Y9.out); obtain ⟨g0, g1, g2, g3, g4, g5⟩ := six_of (HZ.out x9 S9.out); have cp9 := CVP.out x9 S9.out; have cq9 := CVQ.out x9 S9.out; obtain ⟨av, cv, hv, hsv, -⟩ := Sl.of_owns ho; have ct := conv_sl hsv rfl; rw [← HNA.out] at hv ct; subst hv; have HI9 := Lib.hid (HIP.out x9 S9.out); clear t9 ho hsv))
            | (go_at_call 36; ((with_reducible refine (CX.out _ Y9.out p7 c7 q7 e7 HI9.out.1 HI9.out.2).mono ?_); rintro e xA ⟨rfl, tA⟩; have SA := Lib.hid (S9.out.trans tA (by simp)); have YA := Lib.hid (Y9.out.trans tA (by simp)); obtain ⟨h0, h1, h2, h3, h4, h5⟩ := six_of (HBX.out xA YA.out); obtain ⟨i0, i1, i2, i3, i4, i5⟩ := six_of (HZ.out xA SA.out); have cpA := CVP.out xA SA.out; have cqA := CVQ.out xA SA.out; clear tA))) | fail
        all_goals go_wp2
        all_goals go_ret
        all_goals exact ⟨ret_bool (by simp), (TW.out.trans YA.out (by simp)).belowAll⟩
      | true =>
        have hl3 := HLB.out (by trivial)
        have hll := HLL.out (by trivial) (by trivial)
        rw [← hl3] at hll
        clear hl3
        cases sm with
        | true =>
          have hl4 : l2 = l3 := hll.2 rfl
          rw [← hl4] at CVQ
          have cq0 := CVQ.out x8.drew (Turn.drew _ _)
          clear hll hl4
          go_region_held_law (fun w' => w'.cell? ⟨q, 0, none⟩ = some (.int .i64 rk) ∧ w'.cell? ⟨q, 1, none⟩ = some (.int .i64 rt) ∧ w'.cell? ⟨q, 2, none⟩ = some (.int .i64 rd) ∧ w'.cell? ⟨q, 3, none⟩ = some (.bool ry) ∧ w'.cell? ⟨q, 4, none⟩ = some (.slice pa nRP ca) ∧ w'.cell? ⟨q, 5, none⟩ = some (.slice qa nRQ da) ∧ w'.cell? ⟨q8, 0, none⟩ = some (.int .i64 rk) ∧ w'.cell? ⟨q8, 1, none⟩ = some (.int .i64 rt) ∧ w'.cell? ⟨q8, 2, none⟩ = some (.int .i64 rd) ∧ w'.cell? ⟨q8, 3, none⟩ = some (.bool ry) ∧ w'.cell? ⟨q8, 4, none⟩ = some (.slice p7 nRP c7) ∧ w'.cell? ⟨q8, 5, none⟩ = some (.slice q7 nRQ e7) ∧ (convert 24 9 (.slice aa na cca)).run Try.prog w' = .ok (.string ⟨l2.toArray⟩) w' ∧ (convert 24 9 (.slice ab nb ccb)).run Try.prog w' = .ok (.string ⟨l2.toArray⟩) w')
            (first | go_keep | exact ⟨z0, z1, z2, z3, z4, z5, y0, y1, y2, y3, y4, y5, cp0, cq0⟩ | exact ⟨f0, f1, f2, f3, f4, f5, g0, g1, g2, g3, g4, g5, cp9, cq9⟩ | exact ⟨h0, h1, h2, h3, h4, h5, i0, i1, i2, i3, i4, i5, cpA, cqA⟩)
            (first
              | (go_at_call 39; ((with_reducible refine (CY.out _ Y0.out (by trivial)).mono ?_); rintro e x9 ⟨v, rfl, ho, t9⟩; have S9 := Lib.hid ((Turn.drew [] x8).trans t9 (by simp)); have Y9 := Lib.hid (Y0.out.trans t9 (by simp)); obtain ⟨f0, f1, f2, f3, f4, f5⟩ := six_of (HBX.out x9 Y9.out); obtain ⟨g0, g1, g2, g3, g4, g5⟩ := six_of (HZ.out x9 S9.out); have cp9 := CVP.out x9 S9.out; have cq9 := CVQ.out x9 S9.out; obtain ⟨av, cv, hv, hsv, -⟩ := Sl.of_owns ho; have ct := conv_sl hsv rfl; rw [← HNA.out] at hv ct; subst hv; have HI9 := Lib.hid (HIP.out x9 S9.out); clear t9 ho hsv))
              | (go_at_call 36; ((with_reducible refine (CX.out _ Y9.out p7 c7 q7 e7 HI9.out.1 HI9.out.2).mono ?_); rintro e xA ⟨rfl, tA⟩; have SA := Lib.hid (S9.out.trans tA (by simp)); have YA := Lib.hid (Y9.out.trans tA (by simp)); obtain ⟨h0, h1, h2, h3, h4, h5⟩ := six_of (HBX.out xA YA.out); obtain ⟨i0, i1, i2, i3, i4, i5⟩ := six_of (HZ.out xA SA.out); have cpA := CVP.out xA SA.out; have cqA := CVQ.out xA SA.out; clear tA)))
          go_wp2
          go_ret
          exact ⟨ret_bool (by simp), (TW.out.trans YA.out (by simp)).belowAll⟩
        | false =>
          have hne : (⟨l2.toArray⟩ : ByteArray) ≠ ⟨l3.toArray⟩ := fun h => by
            have h2 : l2 = l3 := by injection h with h; simpa using h
            have := hll.1 h2
            cases this
          have hne2 := txt_ne hne
          have HNE : ¬ l2 = l3 := fun h2 => by
            have := hll.1 h2
            cases this
          have cq0 := CVQ.out x8.drew (Turn.drew _ _)
          clear hll hne
          go_region_held_law (fun w' => w'.cell? ⟨q, 0, none⟩ = some (.int .i64 rk) ∧ w'.cell? ⟨q, 1, none⟩ = some (.int .i64 rt) ∧ w'.cell? ⟨q, 2, none⟩ = some (.int .i64 rd) ∧ w'.cell? ⟨q, 3, none⟩ = some (.bool ry) ∧ w'.cell? ⟨q, 4, none⟩ = some (.slice pa nRP ca) ∧ w'.cell? ⟨q, 5, none⟩ = some (.slice qa nRQ da) ∧ w'.cell? ⟨q8, 0, none⟩ = some (.int .i64 rk) ∧ w'.cell? ⟨q8, 1, none⟩ = some (.int .i64 rt) ∧ w'.cell? ⟨q8, 2, none⟩ = some (.int .i64 rd) ∧ w'.cell? ⟨q8, 3, none⟩ = some (.bool ry) ∧ w'.cell? ⟨q8, 4, none⟩ = some (.slice p7 nRP c7) ∧ w'.cell? ⟨q8, 5, none⟩ = some (.slice q7 nRQ e7) ∧ (convert 24 9 (.slice aa na cca)).run Try.prog w' = .ok (.string ⟨l2.toArray⟩) w' ∧ (convert 24 9 (.slice ab nb ccb)).run Try.prog w' = .ok (.string ⟨l3.toArray⟩) w')
            (first | go_keep | exact ⟨z0, z1, z2, z3, z4, z5, y0, y1, y2, y3, y4, y5, cp0, cq0⟩ | exact ⟨f0, f1, f2, f3, f4, f5, g0, g1, g2, g3, g4, g5, cp9, cq9⟩ | exact ⟨h0, h1, h2, h3, h4, h5, i0, i1, i2, i3, i4, i5, cpA, cqA⟩)
            (first
              | (go_at_call 39; ((with_reducible refine (CY.out _ Y0.out (by trivial)).mono ?_); rintro e x9 ⟨v, rfl, ho, t9⟩; have S9 := Lib.hid ((Turn.drew [] x8).trans t9 (by simp)); have Y9 := Lib.hid (Y0.out.trans t9 (by simp)); obtain ⟨f0, f1, f2, f3, f4, f5⟩ := six_of (HBX.out x9 Y9.out); obtain ⟨g0, g1, g2, g3, g4, g5⟩ := six_of (HZ.out x9 S9.out); have cp9 := CVP.out x9 S9.out; have cq9 := CVQ.out x9 S9.out; obtain ⟨av, cv, hv, hsv, -⟩ := Sl.of_owns ho; have ct := conv_sl hsv rfl; rw [← HNA.out] at hv ct; subst hv; have HI9 := Lib.hid (HIP.out x9 S9.out); clear t9 ho hsv))
              | (go_at_call 36; ((with_reducible refine (CX.out _ Y9.out p7 c7 q7 e7 HI9.out.1 HI9.out.2).mono ?_); rintro e xA ⟨rfl, tA⟩; have SA := Lib.hid (S9.out.trans tA (by simp)); have YA := Lib.hid (Y9.out.trans tA (by simp)); obtain ⟨h0, h1, h2, h3, h4, h5⟩ := six_of (HBX.out xA YA.out); obtain ⟨i0, i1, i2, i3, i4, i5⟩ := six_of (HZ.out xA SA.out); have cpA := CVP.out xA SA.out; have cqA := CVQ.out xA SA.out; clear tA)))
          go_wp2
          go_ret
          exact ⟨ret_bool (by simp [HNE]), (TW.out.trans YA.out (by simp)).belowAll⟩

end Go.Proofs.Ytanjbbmgpodbgaa
