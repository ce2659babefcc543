/-
  The law's own Record: a record cut to a size.
-/
import Derived.Test.YtanjbbmgpodbgaaKeq
import Derived.Deep.RegionHeldLaw
import Derived.Maps.AppendAt
import Derived.Lib.MinMax
namespace Go.Proofs.Ytanjbbmgpodbgaa
open Go.RowKit

/-- A text's front. -/
def cutN (s : ByteArray) (n : Nat) : ByteArray := ⟨(s.data.toList.take n).toArray⟩

theorem cutN_ext (s : ByteArray) (n : Nat) : s.extract 0 (min (s.size : Int) (n : Int)).toNat = cutN s n := by
  refine Go.WideShapes.bytes_inj ?_
  rw [ByteArray.data_extract, Array.toList_extract]
  have e : (min (s.size : Int) (n : Int)).toNat = min s.size n := by omega
  rw [e]
  show List.take (min s.size n - 0) (List.drop 0 s.data.toList) = s.data.toList.take n
  rw [List.drop_zero, Nat.sub_zero]
  by_cases h : s.size ≤ n
  · rw [Nat.min_eq_left h, List.take_of_length_le (by simp), List.take_of_length_le (by simpa using h)]
  · rw [Nat.min_eq_right (by omega)]

theorem cut8_calls (s : ByteArray) (n : Nat) (w : World) (hs : s.size ≤ 9223372036854775807) (hn : n ≤ 1000) :
    Calls Try.prog 15 #[.string s, .int .i64 (n : Int)] w fun e w' => e = .returned (.string (cutN s n)) ∧ w' = w := by
  have HC := Lib.hid (cutN_ext s n)
  have hb : 0 ≤ min (s.size : Int) (n : Int) ∧ min (s.size : Int) (n : Int) ≤ (s.size : Int) := by omega
  go_enter Try.func15, Try.ntmps15
  go_wp2
  go_ret
  exact ⟨by rw [← HC.out]; rfl, rfl⟩

theorem Try.putrow : (Try.prog.info? 29).map (fun i => (i.zero, i.size, i.bytes)) = some (some (.agg #[.string ⟨#[]⟩, .string ⟨#[]⟩]), 2, 32) := by kernel_rfl

def pcells (l : List (ByteArray × ByteArray)) : List Value := l.flatMap fun p => [.string p.1, .string p.2]

theorem pcells_length (l : List (ByteArray × ByteArray)) : (pcells l).length = l.length * 2 := by
  induction l with
  | nil => rfl
  | cons p l ih => simp only [pcells, List.flatMap_cons, List.length_append, List.length_cons, List.length_nil] at ih ⊢; omega

theorem pcells_append (a b : List (ByteArray × ByteArray)) : pcells (a ++ b) = pcells a ++ pcells b := by simp [pcells]

/-- 'append(x, Put{..})' within a region that draws its order. -/
theorem step_append_put {ops : Array Oper} {o : Oper} {a : Act} {w : World} {K : Act → World → Prop} {Q : Exit → Act → World → Prop} {E : Prop} (hgd : o.guard = none) (s x : Operand)
    (ho : o.op = .call { callee := .builtin .append, args := #[s, x], argTypes := #[36, 36] })
    (v : Value) (l : List (ByteArray × ByteArray)) (hs : a.eval s = v) (hown : w.ownsRow 0 29 2 v l.length (pcells l))
    (A : Nat) (p : ByteArray × ByteArray) (hx : a.eval x = .slice (some ⟨A, 0, none⟩) 1 1) (hc0 : w.cell? ⟨A, 0, none⟩ = some (.string p.1)) (hc1 : w.cell? ⟨A, 1, none⟩ = some (.string p.2)) (hb : l.length ≤ 1000000)
    (h : ∀ v' w', w'.ownsRow 0 29 2 v' (l ++ [p]).length (pcells (l ++ [p])) → w.grownBy w' v.ownBlock → (v'.ownBlock = v.ownBlock ∨ v'.ownBlock = some w.heap.size) → K (a.put o.dst v') w') :
    if Region.wanted o (yielded ops a.tmps) = true then Oper.wp Try.prog o a w K Q else E := by
  have hw : Region.wanted o (yielded ops a.tmps) = true := by simp [Region.wanted, hgd]
  rw [if_pos hw]
  obtain ⟨i0, hi, hz0, hz1, hz2⟩ := info_parts Try.putrow
  obtain ⟨v', w', hr, h2, h3, h4, h5⟩ := run_append_own_at (P := Try.prog) w 0 36 o.type 29 i0 _ 2 32 Try.underlying36 hi hz0 hz1 hz2 rfl (by decide) v l.length (pcells l) hown ⟨A, 0, none⟩ 1 1 [.string p.1, .string p.2] rfl
    (fun j u hj => by
      match j, hj with
      | 0, hj => simp at hj; rw [← hj, Addr.add_lit]; exact hc0
      | 1, hj => simp at hj; rw [← hj, Addr.add_lit]; exact hc1
      | j + 2, hj => simp at hj) (by intro u hu; simp at hu; rcases hu with rfl | rfl <;> rfl) (by unfold maxLen; omega) (by omega) (Nat.zero_le _)
  unfold Oper.wp execOp
  simp only [ho, resolve, invoke, builtin, Sem.run_bind, Sem.run_pure, Result.andThen_ok, List.map_toArray, List.map_cons, List.map_nil, hs, hx, hr]
  exact h v' w' (by rw [List.length_append, pcells_append]; exact h2) h3 h5

end Go.Proofs.Ytanjbbmgpodbgaa
