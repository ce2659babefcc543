/-
  The reference's Cut.
-/
import Derived.Test.YtgachdaphdjddaaGreatDoorRefFr
import Derived.Test.YtgachdaphdjddaaGreatDoorSegTxs
import Derived.Test.YtgachdaphdjddaaGreatDoorDiskOps
import Derived.RegionTactic
import Derived.Laws.OwnMore
import Derived.Deep.RegionLaw
import Derived.Maps.AppendAt
import Derived.BigQuiet
namespace Go.Proofs.YtgachdaphdjddaaGreatDoor
open Go.RowKit

theorem cutLen_at {b : List UInt8} (h : 2 ≤ b.length) : cutLen b = (b.getD 0 0).toNat + 256 * (b.getD 1 0).toNat := by
  match b, h with
  | x :: y :: r, _ => simp [cutLen, leN]

theorem cutSum_at {b : List UInt8} (h : 6 ≤ b.length) : cutSum b = (b.getD 2 0).toNat + 256 * (b.getD 3 0).toNat + 65536 * (b.getD 4 0).toNat + 16777216 * (b.getD 5 0).toNat := by
  match b, h with
  | x :: y :: z :: u :: v :: t :: r, _ =>
    simp [cutSum, leN]
    omega

theorem or_byte (k : Nat) (m : Int) (lo hi : Nat) (hm : m = ((2 ^ k : Nat) : Int)) (h1 : lo < 2 ^ k) (h2 : 2 ^ k * hi < 4294967296) (h3 : lo < 4294967296) : bits .or .u32 (lo : Int) ((hi : Int) * m) = ((lo + 2 ^ k * hi : Nat) : Int) := by
  have e : ((hi : Int) * m) = ((2 ^ k * hi : Nat) : Int) := by rw [hm, Int.natCast_mul, Int.mul_comm]
  rw [e, u32_or_nat _ _ h3 h2, Nat.or_comm, nat_join k _ _ (by simp) h1, Nat.add_comm]

set_option maxHeartbeats 400000 in
theorem refCut_few (ao : Option Addr) (c : Nat) (b : List UInt8) (w : World) (h : b.length < 2) :
    Calls Tryz.prog 40 #[.slice ao b.length c] w fun e w' => e = .returned (.tuple #[.slice none 0 0, .int .i64 0, .int .i64 2]) ∧ Below w.heap.size w w' := by
  have h2 : decide ((2 : Int) ≤ (b.length : Int)) = false := by simp; omega
  have h3 : ¬ (2 : Int) ≤ (b.length : Int) := by omega
  generalize b.length = n at *
  go_enter Tryz.func40, Tryz.ntmps40
  go_wp2
  go_ret3
  exact ⟨rfl, Below.refl _ _⟩

/-- 'append(x, y...)' within a region that draws its order. -/
theorem step_append_b {ops : Array Oper} {o : Oper} {a : Act} {w : World} {K : Act → World → Prop} {Q : Exit → Act → World → Prop} {E : Prop} (hgd : o.guard = none) (s x : Operand)
    (ho : o.op = .call { callee := .builtin .append, args := #[s, x], argTypes := #[22, 22] })
    (v : Value) (l : List UInt8) (hs : a.eval s = v) (hown : w.ownsRow 0 5 1 v l.length (u8s l))
    (ao : Option Addr) (c : Nat) (l2 : List UInt8) (hx : a.eval x = .slice ao l2.length c) (hsl : Sl w ao c l2) (hb : l.length + l2.length ≤ 140737488355328)
    (h : ∀ v' w', w'.ownsRow 0 5 1 v' (l ++ l2).length (u8s (l ++ l2)) → w.grownBy w' v.ownBlock → (v'.ownBlock = v.ownBlock ∨ v'.ownBlock = some w.heap.size) → K (a.put o.dst v') w') :
    if Region.wanted o (yielded ops a.tmps) = true then Oper.wp Tryz.prog o a w K Q else E := by
  have hw : Region.wanted o (yielded ops a.tmps) = true := by simp [Region.wanted, hgd]
  rw [if_pos hw]
  obtain ⟨i0, hi, hz0, hz1, hz2⟩ := info_parts Tryz.u8row
  rcases hsl with ⟨rfl, rfl, rfl⟩ | ⟨A, rfl, h1, h2, hc⟩
  · have hr := run_append_owned_none (P := Tryz.prog) (w := w) 0 22 o.type 5 i0 1 Tryz.underlying22 hi v l.length (u8s l) hown
    unfold Oper.wp execOp
    simp only [ho, resolve, invoke, builtin, Sem.run_bind, Sem.run_pure, Result.andThen_ok, List.map_toArray, List.map_cons, List.map_nil, hs, hx, List.length_nil, hr]
    exact h v w (by simpa using hown) (World.grownBy.refl _ _) (.inl rfl)
  · obtain ⟨v', w', hr, h2, h3, h4, h5⟩ := run_append_own_at (P := Tryz.prog) w 0 22 o.type 5 i0 (.int .u8 0) 1 1 Tryz.underlying22 hi hz0 hz1 hz2 rfl (by decide) v l.length (u8s l) hown A l2.length c (u8s l2) (by rw [u8s_length]; omega) (Sl.cells (.inr ⟨A, rfl, h1, h2, hc⟩)) (u8s_oneCell l2) (by unfold maxLen; omega) (by omega) (Nat.zero_le _)
    unfold Oper.wp execOp
    simp only [ho, resolve, invoke, builtin, Sem.run_bind, Sem.run_pure, Result.andThen_ok, List.map_toArray, List.map_cons, List.map_nil, hs, hx, hr]
    exact h v' w' (by rw [List.length_append, u8s_append]; exact h2) h3 h5

theorem drew_below (w : World) : Below w.heap.size w w.drew := ⟨rfl, rfl, rfl, Nat.le_refl _, fun _ _ => rfl⟩

set_option maxHeartbeats 1000000 in
set_option maxRecDepth 100000 in
theorem refCut_wrong (ao : Option Addr) (c : Nat) (b : List UInt8) (w : World) (hs : Sl w ao c b) (h2 : 2 ≤ b.length) (hl : cutLen b < 1 ∨ 4000 < cutLen b) :
    Calls Tryz.prog 40 #[.slice ao b.length c] w fun e w' => e = .returned (.tuple #[.slice none 0 0, .int .i64 0, .int .i64 3]) ∧ Below w.heap.size w w' := by
  obtain ⟨bb, off, rfl, hb, hc⟩ := hs.row.at (by intro e; rw [e] at h2; simp at h2)
  have c0 := hc 0 (by omega)
  have c1 := hc 1 (by omega)
  rw [cutLen_at h2] at hl
  have q0 : (b.getD 0 0).toNat < 256 := (b.getD 0 0).toNat_lt
  have q1 : (b.getD 1 0).toNat < 256 := (b.getD 1 0).toNat_lt
  generalize (b.getD 0 0).toNat = p at *
  generalize (b.getD 1 0).toNat = r at *
  rw [Nat.add_zero] at c0
  have hd : decide ((2 : Int) ≤ (b.length : Int)) = true := by simp; omega
  have hi0 : (0 : Int) < (b.length : Int) := by omega
  have hi1 : (1 : Int) < (b.length : Int) := by omega
  have c0' : w.drew.cell? ⟨bb, off, none⟩ = some (.int .u8 (p : Int)) := c0
  have c1' : w.drew.cell? ⟨bb, off + 1, none⟩ = some (.int .u8 (r : Int)) := c1
  obtain ⟨n, hn⟩ : ∃ n, n = p + 256 * r := ⟨_, rfl⟩
  rw [← hn] at hl
  have hni : (p : Int) + 256 * (r : Int) = (n : Int) := by omega
  clear hc hs hn
  generalize b.length = nb at *
  by_cases hn1 : n < 1
  · have k1 : decide ((n : Int) < 1) = true := by simp; omega
    have k1' : (n : Int) < 1 := by omega
    go_enter Tryz.func40, Tryz.ntmps40
    go_wp2_with fail
    go_region
    go_wp2
    go_ret3
    exact ⟨rfl, drew_below w⟩
  · have k1 : decide ((n : Int) < 1) = false := by simp; omega
    have k2 : decide ((4000 : Int) < (n : Int)) = true := by simp; omega
    have k1' : ¬ (n : Int) < 1 := by omega
    have k2' : (4000 : Int) < (n : Int) := by omega
    go_enter Tryz.func40, Tryz.ntmps40
    go_wp2_with fail
    go_region
    go_wp2
    go_ret3
    exact ⟨rfl, drew_below w⟩

set_option maxHeartbeats 1000000 in
set_option maxRecDepth 100000 in
theorem refCut_short (ao : Option Addr) (c : Nat) (b : List UInt8) (w : World) (hs : Sl w ao c b) (h2 : 2 ≤ b.length) (hl : 1 ≤ cutLen b ∧ cutLen b ≤ 4000) (hsh : b.length < 6 + cutLen b) :
    Calls Tryz.prog 40 #[.slice ao b.length c] w fun e w' => e = .returned (.tuple #[.slice none 0 0, .int .i64 0, .int .i64 2]) ∧ Below w.heap.size w w' := by
  obtain ⟨bb, off, rfl, hb, hc⟩ := hs.row.at (by intro e; rw [e] at h2; simp at h2)
  have c0 := hc 0 (by omega)
  have c1 := hc 1 (by omega)
  rw [cutLen_at h2] at hl hsh
  have q0 : (b.getD 0 0).toNat < 256 := (b.getD 0 0).toNat_lt
  have q1 : (b.getD 1 0).toNat < 256 := (b.getD 1 0).toNat_lt
  generalize (b.getD 0 0).toNat = p at *
  generalize (b.getD 1 0).toNat = r at *
  rw [Nat.add_zero] at c0
  have hd : decide ((2 : Int) ≤ (b.length : Int)) = true := by simp; omega
  have hi0 : (0 : Int) < (b.length : Int) := by omega
  have hi1 : (1 : Int) < (b.length : Int) := by omega
  have c0' : w.drew.cell? ⟨bb, off, none⟩ = some (.int .u8 (p : Int)) := c0
  have c1' : w.drew.cell? ⟨bb, off + 1, none⟩ = some (.int .u8 (r : Int)) := c1
  obtain ⟨n, hn⟩ : ∃ n, n = p + 256 * r := ⟨_, rfl⟩
  rw [← hn] at hl hsh
  have hni : (p : Int) + 256 * (r : Int) = (n : Int) := by omega
  clear hc hs hn
  generalize b.length = nb at *
  have k1 : decide ((n : Int) < 1) = false := by simp; omega
  have k2 : decide ((4000 : Int) < (n : Int)) = false := by simp; omega
  have k3 : decide (6 + (n : Int) ≤ (nb : Int)) = false := by simp; omega
  have k1' : ¬ (n : Int) < 1 := by omega
  have k2' : ¬ (4000 : Int) < (n : Int) := by omega
  have k3' : ¬ 6 + (n : Int) ≤ (nb : Int) := by omega
  go_enter Tryz.func40, Tryz.ntmps40
  go_wp2_with fail
  go_region
  go_wp2
  go_ret3
  exact ⟨rfl, drew_below w⟩

set_option maxHeartbeats 2000000 in
set_option maxRecDepth 100000 in
theorem refCut_whole (ao : Option Addr) (c : Nat) (b : List UInt8) (w : World) (hs : Sl w ao c b) (hl : 1 ≤ cutLen b ∧ cutLen b ≤ 4000) (hsh : 6 + cutLen b ≤ b.length) :
    Calls Tryz.prog 40 #[.slice ao b.length c] w fun e w' =>
      (cutSum b = sumOn 0 (b.take 2 ++ (b.drop 6).take (cutLen b)) → ∃ ao' c', e = .returned (.tuple #[.slice ao' (cutLen b) c', .int .i64 (6 + (cutLen b : Int)), .int .i64 0]) ∧ Sl w' ao' c' ((b.drop 6).take (cutLen b))) ∧
      (cutSum b ≠ sumOn 0 (b.take 2 ++ (b.drop 6).take (cutLen b)) → e = .returned (.tuple #[.slice none 0 0, .int .i64 0, .int .i64 3])) ∧ Below w.heap.size w w' := by
  have h2 : 2 ≤ b.length := by omega
  have hle := hs.le
  have HS := Lib.hid hs
  obtain ⟨n, hn⟩ : ∃ n, n = cutLen b := ⟨_, rfl⟩
  rw [← hn] at hl hsh ⊢
  obtain ⟨bb, off, rfl, hb, hc⟩ := hs.row.at (by intro e; rw [e] at h2; simp at h2)
  have c0 := hc 0 (by omega)
  have c1 := hc 1 (by omega)
  have hn0 := hn
  rw [cutLen_at h2] at hn0
  have q0 : (b.getD 0 0).toNat < 256 := (b.getD 0 0).toNat_lt
  have q1 : (b.getD 1 0).toNat < 256 := (b.getD 1 0).toNat_lt
  generalize (b.getD 0 0).toNat = p at *
  generalize (b.getD 1 0).toNat = r at *
  rw [Nat.add_zero] at c0
  have c0' : w.drew.cell? ⟨bb, off, none⟩ = some (.int .u8 (p : Int)) := c0
  have c1' : w.drew.cell? ⟨bb, off + 1, none⟩ = some (.int .u8 (r : Int)) := c1
  have hni : (p : Int) + 256 * (r : Int) = (n : Int) := by omega
  obtain ⟨A1, hA1⟩ : ∃ A1, A1 = b.take 2 := ⟨_, rfl⟩
  obtain ⟨A2, hA2⟩ : ∃ A2, A2 = (b.drop 6).take n := ⟨_, rfl⟩
  have hA1l : A1.length = 2 := by rw [hA1, List.length_take]; omega
  have hA2l : A2.length = n := by rw [hA2, List.length_take, List.length_drop]; omega
  have HC := Lib.hid hc
  obtain ⟨nb, hnb⟩ : ∃ nb, nb = b.length := ⟨_, rfl⟩
  have HNB := Lib.hid hnb
  have HN := Lib.hid hn
  rw [← hA1, ← hA2]
  rw [← hnb] at hle h2 hsh ⊢
  have hd : decide ((2 : Int) ≤ (nb : Int)) = true := by simp; omega
  have hi0 : (0 : Int) < (nb : Int) := by omega
  have hi1 : (1 : Int) < (nb : Int) := by omega
  have k1 : decide ((n : Int) < 1) = false := by simp; omega
  have k2 : decide ((4000 : Int) < (n : Int)) = false := by simp; omega
  have k3 : decide (6 + (n : Int) ≤ (nb : Int)) = true := by simp; omega
  have k1' : ¬ (n : Int) < 1 := by omega
  have k2' : ¬ (4000 : Int) < (n : Int) := by omega
  have k3' : 6 + (n : Int) ≤ (nb : Int) := by omega
  have HA1 := Lib.hid hA1
  have HA2 := Lib.hid hA2
  have HA1L := Lib.hid hA1l
  have HA2L := Lib.hid hA2l
  clear hc hs hn hnb hn0 hA1 hA2 hA1l hA2l
  go_enter Tryz.func40, Tryz.ntmps40
  go_wp2_with fail
  go_region
  clear c0 c1 c0' c1' hni q0 q1 hi0 hi1 k1 k2 k1' k2' hd
  go_wp2_with fail
  have hsl2 : ∀ wx, (Instr.slice 22 (.slice (some ⟨bb, off, none⟩) nb c) none (some (.int .i64 2)) none).run Tryz.prog wx = .ok (.slice (some ⟨bb, off, none⟩) 2 c) wx := fun wx => by
    have h := slice_front (some ⟨bb, off, none⟩) nb c 2 (by omega) wx
    simpa using h
  have hi2c : (2 : Int) ≤ (c : Int) := by omega
  have hi6c : 6 + (n : Int) ≤ (c : Int) := by omega
  have hmid : ∀ wx, (Instr.slice 22 (.slice (some ⟨bb, off, none⟩) nb c) (some (.int .i64 6)) (some (.int .i64 (6 + (n : Int)))) none).run Tryz.prog wx = .ok (.slice (some ⟨bb, off + 6, none⟩) n (c - 6)) wx := fun wx => by
    have h := slice_mid (some ⟨bb, off, none⟩) nb c 6 (6 + n) (by omega) (by omega) wx
    have hc6 : ¬ c = 6 := by omega
    simpa [cutAt, hc6, Addr.add] using h
  have HSA : Hid (∀ wx, Turn [] w wx → Sl wx (some ⟨bb, off, none⟩) c A1) := Lib.hid (fun wx t => by rw [HA1.out]; exact (HS.out.turn t (by simp)).front 2)
  have HSB : Hid (∀ wx, Turn [] w wx → Sl wx (some ⟨bb, off + 6, none⟩) (c - 6) A2) := Lib.hid (fun wx t => by
    have h := ((HS.out.turn t (by simp)).drop (k := 6) (by rw [← HNB.out]; omega)).front n
    rw [show cutAt (some (⟨bb, off, none⟩ : Addr)) c 6 = some ⟨bb, off + 6, none⟩ by simp [cutAt, show ¬ c = 6 by omega, Addr.add]] at h
    rw [HA2.out]
    exact h)
  have HB1 : Hid ((0 : Nat) + A1.length ≤ 140737488355328) := Lib.hid (by rw [HA1L.out]; omega)
  have HB2 : Hid (A1.length + A2.length ≤ 140737488355328) := Lib.hid (by rw [HA1L.out, HA2L.out]; omega)
  have k6 : (6 : Int) ≤ 6 + (n : Int) := by omega
  have hwr : IntKind.i64.wrap (6 + (n : Int)) = 6 + (n : Int) := by rw [IntKind.wrap_i64]; omega
  have hc6 : ¬ c = 6 := by omega
  go_region_law (first
    | (refine step_append_b rfl (.const (.slice none 0 0)) (.tmp 32) rfl (.slice none 0 0) [] rfl (World.ownsRow_nil _ _ _ _) (some ⟨bb, off, none⟩) c A1 (by rw [HA1L.out]; rfl) (HSA.out _ ⟨rfl, rfl, rfl, Nat.le_refl _, fun _ _ _ => rfl⟩) HB1.out ?_; intro v1 w4 ho1 hg1 hf1; have T1 : Turn [] w w4 := Turn.trans (l' := []) (⟨rfl, rfl, rfl, Nat.le_refl _, fun _ _ _ => rfl⟩ : Turn [] w w.drew.drew) (Turn.grown (l := []) hg1 (by intro k hk; cases hk)) (by simp); have HT4 := Lib.hid T1; have HO1 := Lib.hid ho1; have HF1 := Lib.hid hf1; clear ho1 hg1 hf1 T1)
    | (refine step_append_b rfl (.tmp 33) (.tmp 37) rfl v1 A1 rfl HO1.out (some ⟨bb, off + 6, none⟩) (c - 6) A2 (by rw [HA2L.out]; rfl) (HSB.out _ HT4.out) HB2.out ?_; intro v2 w5 ho2 hg2 hf2; have T2 : Turn [] w w5 := HT4.out.trans (Turn.grown (l := v1.ownBlock.toList) hg2 (by intro j hj; simp [hj])) (fun i hi => .inr (by rcases HF1.out with e | e <;> rw [e] at hi <;> simp [Value.ownBlock] at hi; rw [hi]; exact Nat.le_refl _)); obtain ⟨L, hL⟩ : ∃ L, L = A1 ++ A2 := ⟨_, rfl⟩; obtain ⟨a2, c2, he2, hs2, -⟩ := Sl.of_owns (l := L) (by rw [hL]; exact ho2); have HT5 := Lib.hid T2; have HS2 := Lib.hid hs2; have HL := Lib.hid hL; clear ho2 hg2 hf2 T2 hs2 hL; subst he2)
    | (go_simp; go_at_call 39; refine (refSum_any a2 c2 L _ (by rw [HL.out, List.length_append, HA1L.out, HA2L.out]; omega) HS2.out).mono ?_; rintro e w6 ⟨rfl, hb6⟩; have HB6 := Lib.hid hb6; clear hb6))
  have T6 := HT5.out.trans (Turn.of_below HB6.out []) (by simp)
  have d2 := T6.cell (HC.out 2 (by rw [← HNB.out]; omega)) (by simp)
  have d3 := T6.cell (HC.out 3 (by rw [← HNB.out]; omega)) (by simp)
  have d4 := T6.cell (HC.out 4 (by rw [← HNB.out]; omega)) (by simp)
  have d5 := T6.cell (HC.out 5 (by rw [← HNB.out]; omega)) (by simp)
  have q2 : (b.getD 2 0).toNat < 256 := (b.getD 2 0).toNat_lt
  have q3 : (b.getD 3 0).toNat < 256 := (b.getD 3 0).toNat_lt
  have q4 : (b.getD 4 0).toNat < 256 := (b.getD 4 0).toNat_lt
  have q5 : (b.getD 5 0).toNat < 256 := (b.getD 5 0).toNat_lt
  obtain ⟨p2, hp2⟩ : ∃ x, x = (b.getD 2 0).toNat := ⟨_, rfl⟩
  obtain ⟨p3, hp3⟩ : ∃ x, x = (b.getD 3 0).toNat := ⟨_, rfl⟩
  obtain ⟨p4, hp4⟩ : ∃ x, x = (b.getD 4 0).toNat := ⟨_, rfl⟩
  obtain ⟨p5, hp5⟩ : ∃ x, x = (b.getD 5 0).toNat := ⟨_, rfl⟩
  rw [← hp2] at d2 q2
  rw [← hp3] at d3 q3
  rw [← hp4] at d4 q4
  rw [← hp5] at d5 q5
  have d2' : w6.drew.cell? ⟨bb, off + 2, none⟩ = some (.int .u8 (p2 : Int)) := d2
  have d3' : w6.drew.cell? ⟨bb, off + 3, none⟩ = some (.int .u8 (p3 : Int)) := d3
  have d4' : w6.drew.cell? ⟨bb, off + 4, none⟩ = some (.int .u8 (p4 : Int)) := d4
  have d5' : w6.drew.cell? ⟨bb, off + 5, none⟩ = some (.int .u8 (p5 : Int)) := d5
  have i2 : (2 : Int) < (nb : Int) := by omega
  have i3 : (3 : Int) < (nb : Int) := by omega
  have i4 : (4 : Int) < (nb : Int) := by omega
  have i5 : (5 : Int) < (nb : Int) := by omega
  obtain ⟨S, hS⟩ : ∃ S, S = sumOn 0 L := ⟨_, rfl⟩
  rw [← hS]
  have HSS := Lib.hid hS
  have HP := Lib.hid (And.intro hp2 (And.intro hp3 (And.intro hp4 hp5)))
  have T6h := Lib.hid T6
  clear hS hp2 hp3 hp4 hp5 T6 hsl2 hi2c
  clear d2' d3' d4' d5'
  have wr2 : IntKind.u32.wrap (p2 : Int) = (p2 : Int) := by simp [IntKind.wrap, IntKind.bits, IntKind.signed]; omega
  have wr3 : IntKind.u32.wrap (p3 : Int) = (p3 : Int) := by simp [IntKind.wrap, IntKind.bits, IntKind.signed]; omega
  have wr4 : IntKind.u32.wrap (p4 : Int) = (p4 : Int) := by simp [IntKind.wrap, IntKind.bits, IntKind.signed]; omega
  have wr5 : IntKind.u32.wrap (p5 : Int) = (p5 : Int) := by simp [IntKind.wrap, IntKind.bits, IntKind.signed]; omega
  have ws3 : IntKind.u32.wrap ((p3 : Int) * 256) = (p3 : Int) * 256 := by simp [IntKind.wrap, IntKind.bits, IntKind.signed]; omega
  have ws4 : IntKind.u32.wrap ((p4 : Int) * 65536) = (p4 : Int) * 65536 := by simp [IntKind.wrap, IntKind.bits, IntKind.signed]; omega
  have ws5 : IntKind.u32.wrap ((p5 : Int) * 16777216) = (p5 : Int) * 16777216 := by simp [IntKind.wrap, IntKind.bits, IntKind.signed]; omega
  obtain ⟨u1, hu1⟩ : ∃ u, u = p2 + 2 ^ 8 * p3 := ⟨_, rfl⟩
  obtain ⟨u2, hu2⟩ : ∃ u, u = u1 + 2 ^ 16 * p4 := ⟨_, rfl⟩
  obtain ⟨Z, hZ⟩ : ∃ u, u = u2 + 2 ^ 24 * p5 := ⟨_, rfl⟩
  have o1 : bits .or .u32 (p2 : Int) ((p3 : Int) * 256) = (u1 : Int) := by rw [hu1]; exact or_byte 8 256 p2 p3 rfl (by omega) (by omega) (by omega)
  have o2 : bits .or .u32 (u1 : Int) ((p4 : Int) * 65536) = (u2 : Int) := by rw [hu2]; exact or_byte 16 65536 u1 p4 rfl (by omega) (by omega) (by omega)
  have o3 : bits .or .u32 (u2 : Int) ((p5 : Int) * 16777216) = (Z : Int) := by rw [hZ]; exact or_byte 24 16777216 u2 p5 rfl (by omega) (by omega) (by omega)
  have hcs : cutSum b = Z := by
    obtain ⟨h2', h3', h4', h5'⟩ := HP.out
    rw [cutSum_at (by rw [← HNB.out]; omega), ← h2', ← h3', ← h4', ← h5', hZ, hu2, hu1]
  have hsum : S = sumOn 0 (A1 ++ A2) := by rw [HSS.out, HL.out]
  have HEQ : Hid (cutSum b = sumOn 0 (A1 ++ A2) ↔ Z = S) := Lib.hid (by rw [hcs, ← hsum])
  have HB3 : Hid ((0 : Nat) + A2.length ≤ 140737488355328) := Lib.hid (by rw [HA2L.out]; omega)
  clear hu1 hu2 hZ hcs hsum q2 q3 q4 q5
  by_cases hzs : Z = S
  · have hne : ((Z : Int) != (S : Int)) = false := by simp [hzs]
    have HZS := Lib.hid hzs
    clear hzs
    go_wp2_with fail
    go_quiet (fail)
    clear o1 o2 o3 ws3 ws4 ws5 wr2 wr3 wr4 wr5 d2 d3 d4 d5 i2 i3 i4 i5 hne
    have t8 : Turn [] w (w6.drewN nq) := T6h.out.trans (Turn.drewN [] w6 nq) (by simp)
    have T8 := Lib.hid t8
    clear t8
    go_wp2_with (at_builtin; refine append_bytes_at rfl (.const (.slice none 0 0)) (.tmp 67) rfl (.slice none 0 0) [] rfl (World.ownsRow_nil _ _ _ _) (some ⟨bb, off + 6, none⟩) (c - 6) A2 (by rw [HA2L.out]; rfl) (HSB.out _ T8.out) HB3.out ?_)
    intro v9 w9 hown9 hg9 _
    have B9 := Lib.hid (T8.out.belowAll.grown hg9 T8.out.size (by intro k hk; cases hk))
    obtain ⟨a9, c9, he9, hs9, -⟩ := Sl.of_owns (l := A2) hown9
    rw [HA2L.out] at he9
    subst he9
    have S9 := Lib.hid hs9
    clear hown9 hg9 hs9
    go_wp2
    go_ret3
    exact ⟨fun _ => ⟨a9, c9, rfl, S9.out⟩, fun h => absurd (HEQ.out.2 HZS.out) h, B9.out⟩
  · have hne : ((Z : Int) != (S : Int)) = true := by simp; omega
    have HZS := Lib.hid hzs
    clear hzs
    go_wp2_with fail
    go_quiet (fail)
    have t8 : Turn [] w (w6.drewN nq) := T6h.out.trans (Turn.drewN [] w6 nq) (by simp)
    have T8 := Lib.hid t8
    clear t8
    go_wp2
    go_ret3
    exact ⟨fun h => absurd (HEQ.out.1 h) HZS.out, fun _ => rfl, T8.out.belowAll⟩

end Go.Proofs.YtgachdaphdjddaaGreatDoor
