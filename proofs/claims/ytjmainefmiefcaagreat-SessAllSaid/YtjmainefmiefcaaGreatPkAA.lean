/-
  Of the texts Turn Cmp Find BagI Mp BagQ RegInv Row2 Del2 LRow2 BagA LTimI, in build order, each as it was built alone.
-/
import Derived.Test.YtjmainefmiefcaaGreatProg
import Derived.WalkKit
import Derived.WalkSpells
import Derived.WalkLawsBesides
import Derived.Lib.Hide
import Derived.Below
import Derived.Maps.OwnSet
import Derived.Maps.AppendAt
import Derived.ArgAppend
import Derived.Sort.Walk0
import Derived.Lib.MinMax
import Derived.Recover
import Derived.Defers
import Derived.Deep.RegionHeld3
import Derived.Maps.OwnOps
import Derived.Maps.Views
import Derived.OrdersHeld
import Derived.StillTail
import Derived.Great.Frames
import Derived.Laws.CopyRow
import Derived.Lib.Overlaps
import Derived.Lib.AppendZerosOnto
import Derived.BigQuiet
import Derived.Deep.QuietTactic

/-
  What turns and what stays: a world in which only the blocks of a list may have turned.
-/
namespace Go.Proofs.YtjmainefmiefcaaGreat
open Go.RowKit

/-- w' is w but for the blocks of l and new ones. -/
structure Turn (l : List Nat) (w w' : World) : Prop where
  os : w'.os = w.os
  tape : w'.tape = w.tape
  output : w'.output = w.output
  size : w.heap.size ≤ w'.heap.size
  block : ∀ k, k < w.heap.size → k ∉ l → w'.heap[k]? = w.heap[k]?

theorem Turn.refl (l : List Nat) (w : World) : Turn l w w := ⟨rfl, rfl, rfl, Nat.le_refl _, fun _ _ _ => rfl⟩

/-- One behind the other: what the second may turn is the first's or new. -/
theorem Turn.trans {l l' : List Nat} {a b c : World} (h : Turn l a b) (k : Turn l' b c) (hl : ∀ i ∈ l', i ∈ l ∨ a.heap.size ≤ i) : Turn l a c :=
  ⟨k.os.trans h.os, k.tape.trans h.tape, k.output.trans h.output, Nat.le_trans h.size k.size, fun i hi hn =>
    (k.block i (Nat.lt_of_lt_of_le hi h.size) (fun hm => by rcases hl i hm with h1 | h1 <;> first | exact hn h1 | omega)).trans (h.block i hi hn)⟩

theorem Turn.mono {l l' : List Nat} {a b : World} (h : Turn l a b) (hl : ∀ i ∈ l, i ∈ l' ∨ a.heap.size ≤ i) : Turn l' a b := (Turn.refl l' a).trans h hl

theorem Turn.alloc (l : List Nat) (w : World) (o : Obj) : Turn l w (w.alloc o) := ⟨rfl, rfl, rfl, by simp, fun k hk _ => Below.heap_alloc w o k hk⟩

theorem Turn.drew (l : List Nat) (w : World) : Turn l w w.drew := ⟨rfl, rfl, rfl, Nat.le_refl _, fun _ _ _ => rfl⟩

theorem Turn.drewN (l : List Nat) (w : World) (n : Nat) : Turn l w (w.drewN n) := ⟨rfl, rfl, rfl, Nat.le_refl _, fun _ _ _ => rfl⟩

theorem Turn.setCell {l : List Nat} (w : World) {b i : Nat} (hb : b ∈ l) (u : Value) : Turn l w (w.setCell ⟨b, i, none⟩ u) :=
  ⟨rfl, rfl, rfl, by simp [World.setCell], fun k _ hn => Below.heap_setCell _ _ _ _ (fun e => hn (by rw [e]; exact hb))⟩

theorem Turn.grown {l : List Nat} {w w' : World} {row : Option Nat} (h : w.grownBy w' row) (hr : ∀ k, row = some k → k ∈ l ∨ w.heap.size ≤ k) : Turn l w w' :=
  ⟨h.os, h.tape, h.output, h.size, fun k hk hn => h.block k hk (fun e => by rcases hr k e.symm with h1 | h1 <;> first | exact hn h1 | omega)⟩

theorem Turn.of_below {w w' : World} (h : Below w.heap.size w w') (l : List Nat) : Turn l w w' := ⟨h.os, h.tape, h.output, h.size, fun k hk _ => h.block k hk⟩

/-- Nothing below B has turned, where the list is above it. -/
theorem Turn.below {l : List Nat} {w w' : World} {B : Nat} (h : Turn l w w') (hl : ∀ k ∈ l, B ≤ k) (hB : B ≤ w.heap.size) : Below B w w' :=
  ⟨h.os, h.tape, h.output, h.size, fun k hk => h.block k (by omega) (fun hm => by have := hl k hm; omega)⟩

theorem Turn.belowAll {w w' : World} (h : Turn [] w w') : Below w.heap.size w w' := h.below (by simp) (Nat.le_refl _)

theorem lt_of_heap {w : World} {b : Nat} {o : Obj} (h : w.heap[b]? = some o) : b < w.heap.size := (Array.getElem?_eq_some_iff.1 h).1

theorem Turn.heap {l : List Nat} {w w' : World} {b : Nat} {o : Obj} (h : Turn l w w') (hb : w.heap[b]? = some o) (hn : b ∉ l) : w'.heap[b]? = some o := (h.block b (lt_of_heap hb) hn).trans hb

theorem Turn.cell {l : List Nat} {w w' : World} {a : Addr} {v : Value} (h : Turn l w w') (hb : w.cell? a = some v) (hn : a.block ∉ l) : w'.cell? a = some v :=
  (World.cell?_of_block (h.block _ (World.block_lt_of_cell? _ _ hb) hn)).trans hb

/-- A block of cells is written at one place. -/
theorem block_set {w : World} {g i : Nat} {cs : Array Value} {t : TypeId} {fr : Nat × Nat} (h : w.heap[g]? = some (.cells cs t fr)) (v : Value) : (w.setCell ⟨g, i, none⟩ v).heap[g]? = some (.cells (cs.setIfInBounds i v) t fr) := by
  simp [World.setCell, Array.getElem?_modify, h]

theorem block_other {w : World} {g b i : Nat} (hne : g ≠ b) (v : Value) : (w.setCell ⟨b, i, none⟩ v).heap[g]? = w.heap[g]? := Below.heap_setCell _ _ _ _ hne

theorem unfrozen_of {w : World} {g i : Nat} {cs : Array Value} {t : TypeId} (h : w.heap[g]? = some (.cells cs t (0, 0))) : w.frozen? ⟨g, i, none⟩ = false := by
  simp [World.frozen?, h]

/-- A row of the call's own stays while other blocks turn. -/
theorem ownsRow_turn {l : List Nat} {w w' : World} {base : Nat} {e : TypeId} {size : Nat} {v : Value} {n : Nat} {xs : List Value} (h : w.ownsRow base e size v n xs) (ht : Turn l w w') (hn : ∀ k, v.ownBlock = some k → k ∉ l) : w'.ownsRow base e size v n xs := by
  refine ⟨h.1, ?_⟩
  rcases h.2 with h0 | ⟨g, cap, cur, rfl, hB, hg, rest⟩
  · exact .inl h0
  · exact .inr ⟨g, cap, cur, rfl, hB, ht.heap hg (hn g rfl), rest⟩

theorem ownsRow_base {w : World} {base base' : Nat} {e : TypeId} {size : Nat} {v : Value} {n : Nat} {xs : List Value} (h : w.ownsRow base e size v n xs) (hb : ∀ k, v.ownBlock = some k → base' ≤ k) : w.ownsRow base' e size v n xs := by
  refine ⟨h.1, ?_⟩
  rcases h.2 with h0 | ⟨g, cap, cur, rfl, hB, rest⟩
  · exact .inl h0
  · exact .inr ⟨g, cap, cur, rfl, hb g rfl, rest⟩


theorem ret_int {k : IntKind} {a b : Int} (h : a = b) : Ending.returned (.int k a) = .returned (.int k b) := by rw [h]

theorem ret_bool {a b : Bool} (h : a = b) : Ending.returned (.bool a) = .returned (.bool b) := by rw [h]

end Go.Proofs.YtjmainefmiefcaaGreat


/-
  How things compare: cmp.Compare of numbers and of texts; 'plus'; the laws' orders.
-/
namespace Go.Proofs.YtjmainefmiefcaaGreat
open Go.RowKit

def cmpZ (a b : Int) : Int := if a < b then -1 else if b < a then 1 else 0

/-- a and n, which stops at the greatest int. -/
def plusZ (a n : Int) : Int := if 9223372036854775807 - a < n then 9223372036854775807 else a + n

theorem plus_calls (a n : Int) (ha : 0 ≤ a ∧ a ≤ 9223372036854775807) (hn : -9223372036854775808 ≤ n ∧ n ≤ 9223372036854775807) (w : World) :
    Calls Tryz.prog 86 #[.int .i64 a, .int .i64 n] w fun e w' => e = .returned (.int .i64 (plusZ a n)) ∧ w' = w := by
  by_cases h1 : 9223372036854775807 - a < n
  · go_enter Tryz.func86, Tryz.ntmps86
    go_wp2
    go_ret
    exact ⟨ret_int (by unfold plusZ; rw [if_pos h1]), rfl⟩
  · go_enter Tryz.func86, Tryz.ntmps86
    go_wp2
    go_ret
    exact ⟨ret_int (by unfold plusZ; rw [if_neg (by omega)]), rfl⟩

/-- The laws' order: by the last digit, then by the number; or backwards. -/
def ordT (back : Bool) (a b : Int) : Int :=
  let c := if cmpZ (a.tmod 10) (b.tmod 10) = 0 then cmpZ a b else cmpZ (a.tmod 10) (b.tmod 10)
  if back then -c else c

theorem cmpZ_small (a b : Int) : cmpZ a b = -1 ∨ cmpZ a b = 0 ∨ cmpZ a b = 1 := by
  unfold cmpZ
  split
  · exact .inl rfl
  · split
    · exact .inr (.inr rfl)
    · exact .inr (.inl rfl)

end Go.Proofs.YtjmainefmiefcaaGreat


/-
  sort.Find over a closure of the bag's; the closure; the place of a thing.
-/
namespace Go.Proofs.YtjmainefmiefcaaGreat
open Go.RowKit

set_option maxHeartbeats 2000000 in
set_option maxRecDepth 100000 in
/-- sort.Find: f is above nought below m, and not from m on. -/
theorem sortFind_calls (kf : FuncId) (cap : Array Value) (n m : Nat) (g : Nat → Int) (w : World) (hn : n ≤ 1000000) (hm : m ≤ n)
    (enter : ∀ args wx, (callFunc kf args).run Tryz.prog wx = .ok (.enter kf args) wx)
    (calls : ∀ i wx, i < n → Turn [] w wx → Calls Tryz.prog kf (#[.int .i64 (i : Int)] ++ cap) wx fun e w' => e = .returned (.int .i64 (g i)) ∧ Turn [] w w')
    (hlo : ∀ i, i < m → 0 < g i) (hhi : ∀ i, m ≤ i → i < n → g i ≤ 0) :
    Calls Tryz.prog 106 #[.int .i64 (n : Int), .func (.func kf) #[] cap] w fun e w' => e = .returned (.tuple #[.int .i64 (m : Int), .bool (decide (m < n) && (g m == 0))]) ∧ Turn [] w w' := by
  go_enter Tryz.func106, Tryz.ntmps106
  go_wp2_with fail
  go_loopw [4, 6] (fun vi vj wx => ∃ i j : Nat, i ≤ m ∧ m ≤ j ∧ j ≤ n ∧ vi = .int .i64 (i : Int) ∧ vj = .int .i64 (j : Int) ∧ Turn [] w wx) (fun vi vj _ => (intOf vj).toNat - (intOf vi).toNat)
  case atStart => exact ⟨0, n, by omega, hm, Nat.le_refl _, rfl, rfl, Turn.refl _ _⟩
  case round =>
    obtain ⟨i, j, hi, hj, hjn, rfl, rfl, ht⟩ := hrel
    have HT := Lib.hid ht
    clear ht
    by_cases hij : i < j
    · obtain ⟨h, hh⟩ : ∃ h, h = (i + j) / 2 := ⟨_, rfl⟩
      have hih : i ≤ h ∧ h < j := by omega
      have hh' : ((i : Int) + (j : Int)) / 2 = (h : Int) := by omega
      clear hh
      have C := Lib.hid (calls h)
      by_cases hg : 0 < g h
      · have hhm : h < m := by
          false_or_by_contra
          have := hhi h (by omega) (by omega)
          omega
        go_wp2_with fail
        refine (C.out _ (by omega) HT.out).mono ?_
        rintro e x1 ⟨rfl, t1⟩
        have T1 := Lib.hid t1
        clear t1 C
        go_wp2
        go_roundw
        case rel => exact ⟨h + 1, j, by omega, hj, hjn, by go_num, rfl, T1.out⟩
        case measure => simp [intOf]; omega
      · have hhm : m ≤ h := by
          false_or_by_contra
          have := hlo h (by omega)
          omega
        go_wp2_with fail
        refine (C.out _ (by omega) HT.out).mono ?_
        rintro e x1 ⟨rfl, t1⟩
        have T1 := Lib.hid t1
        clear t1 C
        go_wp2
        go_roundw
        case rel => exact ⟨i, h, hi, hhm, by omega, rfl, rfl, T1.out⟩
        case measure => simp [intOf]; omega
    · have him : i = m := by omega
      subst him
      by_cases hin : i < n
      · have C := Lib.hid (calls i)
        have hin1 : decide ((i : Int) < (n : Int)) = true := by simp; omega
        have hin2 : decide (i < n) = true := by simp; omega
        go_wp2_with fail
        refine (C.out _ hin HT.out).mono ?_
        rintro e x1 ⟨rfl, t1⟩
        have T1 := Lib.hid t1
        clear t1 C
        go_wp2
        go_ret2
        exact ⟨by rw [hin2, Bool.true_and]; rfl, T1.out⟩
      · have hin1 : decide ((i : Int) < (n : Int)) = false := by simp; omega
        have hin2 : decide (i < n) = false := by simp; omega
        go_wp2
        go_ret2
        exact ⟨by rw [hin2, Bool.false_and]; rfl, HT.out⟩

end Go.Proofs.YtjmainefmiefcaaGreat


/-
  A bag of numbers in memory; the closure that find hands to sort.Find; find.
-/
namespace Go.Proofs.YtjmainefmiefcaaGreat
open Go.RowKit

theorem cell_new (w : World) (x : Value) (t : TypeId) : (w.alloc (.cells #[x] t)).cell? ⟨w.heap.size, 0, none⟩ = some x := by
  have h : (w.alloc (.cells #[x] t)).heap[w.heap.size]? = some (.cells #[x] t) := by
    show (w.heap.push (.cells #[x] t))[w.heap.size]? = _
    exact Array.getElem?_push_size
  unfold World.cell?
  rw [h]
  rfl

theorem enter_run {P : Program} {f : FuncId} {fn : Func} (hf : P.funcs[f]? = some fn) (hname : (fn.name == "runtime.NumGoroutine") = false) (hb : fn.body.isNone = false) (args : Array Value) (w : World) :
    (callFunc f args).run P w = .ok (.enter f args) w := by
  have h1 : (fn.name = "runtime.NumGoroutine") = False := by simpa using hname
  cases h2 : fn.body with
  | none => rw [h2] at hb; cases hb
  | some c => simp [callFunc, hf, h1, h2]

/-- A call through a function value, within a region. -/
theorem step_callv {P : Program} {ops : Array Oper} {o : Oper} {a : Act} {w : World} {K : Act → World → Prop} {Q : Exit → Act → World → Prop} {E : Prop} (hw : Region.wanted o (yielded ops a.tmps) = true)
    {x : Operand} {args : Array Operand} {ts : Array TypeId} (kf : FuncId) (cap vs : Array Value) (ho : o.op = .call { callee := .value x, args := args, argTypes := ts }) (hx : a.eval x = .func (.func kf) #[] cap) (hv : args.map a.eval = vs)
    (enter : (callFunc kf (vs ++ cap)).run P w = .ok (.enter kf (vs ++ cap)) w)
    (h : Calls P kf (vs ++ cap) w (fun e w' => ∃ v, e = .returned v ∧ K (a.put o.dst v) w')) : if Region.wanted o (yielded ops a.tmps) = true then Oper.wp P o a w K Q else E := by
  rw [if_pos hw]
  unfold Oper.wp execOp
  simp only [ho, resolve, hx, Deferred.ofValue, invoke, Sem.run_bind, Sem.run_pure, Result.andThen_ok, hv]
  have : #[] ++ vs ++ cap = vs ++ cap := by simp
  simp only [this, enter, Oper.upon_enter]
  refine h.mono ?_
  rintro e w' ⟨v, rfl, hk⟩
  exact hk

def kcells (K : List (Int × Int)) : List Value := K.flatMap fun p => [.int .i64 p.1, .int .i64 p.2]

theorem kcells_length (K : List (Int × Int)) : (kcells K).length = K.length * 2 := by
  induction K with
  | nil => rfl
  | cons p K ih => simp only [kcells, List.flatMap_cons, List.length_append, List.length_cons, List.length_nil] at ih ⊢; omega

theorem kcells_at : ∀ (K : List (Int × Int)) (i : Nat) (h : i < K.length), (kcells K)[2 * i]? = some (.int .i64 K[i].1) ∧ (kcells K)[2 * i + 1]? = some (.int .i64 K[i].2)
  | p :: K, 0, _ => ⟨rfl, rfl⟩
  | p :: K, i + 1, h => by
    have ih := kcells_at K i (by simpa using h)
    have e : kcells (p :: K) = .int .i64 p.1 :: .int .i64 p.2 :: kcells K := rfl
    rw [e, show 2 * (i + 1) = 2 * i + 1 + 1 by omega, show 2 * i + 1 + 1 + 1 = (2 * i + 1) + 1 + 1 by omega]
    simpa using ih

def inI64 (x : Int) : Prop := -9223372036854775808 ≤ x ∧ x ≤ 9223372036854775807

/-- A bag of numbers: its compare, its kinds. -/
structure BagI (w : World) (b : Nat) (fv v : Value) (K : List (Int × Int)) : Prop where
  head : w.heap[b]? = some (.cells #[fv, v] 122)
  row : w.ownsRow 0 191 2 v K.length (kcells K)
  apart : v.ownBlock ≠ some b
  nums : ∀ p ∈ K, inI64 p.1 ∧ 1 ≤ p.2 ∧ p.2 ≤ 9223372036854775807
  few : K.length ≤ 1000

theorem BagI.turn {w w' : World} {b : Nat} {fv v : Value} {K : List (Int × Int)} {l : List Nat} (h : BagI w b fv v K) (t : Turn l w w') (hb : b ∉ l) (hv : ∀ k, v.ownBlock = some k → k ∉ l) : BagI w' b fv v K :=
  ⟨t.heap h.head hb, ownsRow_turn h.row t hv, h.apart, h.nums, h.few⟩

theorem BagI.cells {w : World} {b : Nat} {fv v : Value} {K : List (Int × Int)} (h : BagI w b fv v K) : w.cell? ⟨b, 0, none⟩ = some fv ∧ w.cell? ⟨b, 1, none⟩ = some v := by
  constructor <;> simp [World.cell?, h.head]

/-- The kinds' slice; where one of them stands. -/
theorem BagI.kinds {w : World} {b : Nat} {fv v : Value} {K : List (Int × Int)} (h : BagI w b fv v K) :
    ∃ ao cap, v = .slice ao K.length cap ∧ K.length ≤ cap ∧ cap ≤ maxLen ∧ ∀ i (hi : i < K.length), ∃ g, ao = some ⟨g, 0, none⟩ ∧ w.cell? ⟨g, i * 2, none⟩ = some (.int .i64 K[i].1) ∧ w.cell? ⟨g, i * 2 + 1, none⟩ = some (.int .i64 K[i].2) := by
  rcases h.row.2 with ⟨rfl, h0⟩ | ⟨g, cap, cur, rfl, _, hg, hle, hmx, hsz, htk⟩
  · exact ⟨none, 0, by rw [h0], by omega, by unfold maxLen; omega, fun i hi => by omega⟩
  · refine ⟨_, cap, rfl, hle, hmx, fun i hi => ⟨g, rfl, ?_, ?_⟩⟩
    · have h1 := (kcells_at K i hi).1
      rw [← htk, List.getElem?_take_of_lt (by omega)] at h1
      rw [Nat.mul_comm] at h1
      simp [World.cell?, hg]
      simpa using h1
    · have h1 := (kcells_at K i hi).2
      rw [← htk, List.getElem?_take_of_lt (by omega)] at h1
      rw [Nat.mul_comm] at h1
      simp [World.cell?, hg]
      simpa using h1

/-- A function value that compares two numbers. -/
structure CmpOk (kc : FuncId) (cap : Array Value) (c : Int → Int → Int) (ok : World → Prop) : Prop where
  enter : ∀ args w, (callFunc kc args).run Tryz.prog w = .ok (.enter kc args) w
  calls : ∀ x y w, inI64 x → inI64 y → ok w → Calls Tryz.prog kc (#[.int .i64 x, .int .i64 y] ++ cap) w fun e w' => e = .returned (.int .i64 (c x y)) ∧ w' = w
  turn : ∀ w w', ok w → Turn [] w w' → ok w'
  small : ∀ x y, inI64 (c x y)

theorem eq_nilFunc (w : World) (fn : Fn) (first cap : Array Value) : (binOp .eql 119 (.func fn first cap) .nilFunc).run Tryz.prog w = .ok (.bool false) w := by kernel_rfl

end Go.Proofs.YtjmainefmiefcaaGreat


/-
  A map of numbers, as a function: what stands at each.
-/
namespace Go.Proofs.YtjmainefmiefcaaGreat
open Go.RowKit

/-- What stands in a map is kept as it is. -/
def heldR (v : Value) : Option (DataW Value × List MemPlace) := some (.held v, [])

theorem i64_law : Go.Maps.Keyed Tryz.prog 2 := Go.Maps.int_keyed Tryz.underlying2

theorem key_i64 {x : Int} (h : inI64 x) : keyOf Tryz.prog 2 (.int .i64 x) = some (.int .i64 x) := Go.Maps.keyOf_int_mk Tryz.underlying2 (Go.WalkArith.wf_i64 h)

/-- The map in block m, in which no more than n ever stood: at each number x it has f x (z: nothing is there). -/
def Mp (w : World) (m n : Nat) (z : Value) (f : Int → Value) : Prop :=
  ∃ D : DataW Value, w.ownsMap Tryz.prog 2 heldR m n D ∧ ∀ x, inI64 x → D.atKey (.int .i64 x) (.held z) = .held (f x)

theorem ownsMap_turn {H : Type} {P : Program} {k : TypeId} {R : Value → Option (DataW H × List MemPlace)} {l : List Nat} {w w' : World} {b n : Nat} {D : DataW H} (h : w.ownsMap P k R b n D) (t : Turn l w w') (hb : b ∉ l) : w'.ownsMap P k R b n D := by
  obtain ⟨es, clock, hk, F, hs, hD⟩ := h
  exact ⟨es, clock, t.heap hk hb, F, hs, hD⟩

theorem Mp.turn {l : List Nat} {w w' : World} {m n : Nat} {z : Value} {f : Int → Value} (h : Mp w m n z f) (t : Turn l w w') (hb : m ∉ l) : Mp w' m n z f := by
  obtain ⟨D, hD, hf⟩ := h
  exact ⟨D, ownsMap_turn hD t hb, hf⟩

theorem Mp.isMap {w : World} {m n : Nat} {z : Value} {f : Int → Value} (h : Mp w m n z f) : ∃ es clock, w.heap[m]? = some (.map es clock) := by
  obtain ⟨D, ⟨es, clock, hb, -⟩, -⟩ := h
  exact ⟨es, clock, hb⟩

theorem Mp.lt {w : World} {m n : Nat} {z : Value} {f : Int → Value} (h : Mp w m n z f) : m < w.heap.size := by
  obtain ⟨es, c, h1⟩ := h.isMap
  exact lt_of_heap h1

/-- A block of cells is no map's. -/
theorem Mp.ne {w : World} {m n k : Nat} {z : Value} {f : Int → Value} (h : Mp w m n z f) {cs : Array Value} {t : TypeId} {fr : Nat × Nat} (hk : w.heap[k]? = some (.cells cs t fr)) : k ≠ m := by
  rintro rfl
  obtain ⟨es, c, h1⟩ := h.isMap
  rw [h1] at hk
  cases hk

theorem Mp.made (w : World) (z : Value) : Mp (w.alloc (.map #[] 0)) w.heap.size 0 z (fun _ => z) :=
  ⟨_, World.ownsMap_made w Tryz.prog 2 heldR, fun _ _ => rfl⟩

/-- What 'm[k]' gives. -/
theorem Mp.look {w : World} {m n : Nat} {z : Value} {f : Int → Value} (h : Mp w m n z f) {T E : TypeId} (ht : Tryz.prog.underlying T = some (.map 2 E)) (hz : (zeroValue E).run Tryz.prog w = .ok z w) {x : Int} (hx : inI64 x) :
    (Instr.lookup T (.map (some m)) (.int .i64 x) false).run Tryz.prog w = .ok (f x) w := by
  obtain ⟨D, hD, hf⟩ := h
  obtain ⟨v, ps, hrun, hv⟩ := hD.lookup i64_law ht hz (zd := .held z) (zp := []) rfl (key_i64 hx)
  have e : DataW.held v = DataW.held (f x) := (Option.some.inj (congrArg (Option.map Prod.fst) hv)).trans (hf x hx)
  rw [hrun, DataW.held.inj e]

theorem Mp.put {w w' : World} {m n : Nat} {z : Value} {f : Int → Value} {D : DataW Value} (hD : w.ownsMap Tryz.prog 2 heldR m n D) (hf : ∀ x, inI64 x → D.atKey (.int .i64 x) (.held z) = .held (f x))
    {x : Int} {v : Value} {k : Nat} (ho : w'.ownsMap Tryz.prog 2 heldR m k (D.put (.int .i64 x) (.held v))) : Mp w' m k z (fun y => if y = x then v else f y) := by
  refine ⟨_, ho, fun y hy => ?_⟩
  by_cases e : y = x
  · subst e
    show _ = DataW.held (if y = y then v else f y)
    rw [if_pos rfl, Go.Maps.atKey_put_same hD.isMap (show WideAt.IsKeyLit (.int .i64 y) from trivial)]
  · show _ = DataW.held (if y = x then v else f y)
    rw [if_neg e, Go.Maps.atKey_put_other (by intro h; injection h with h1 h2; exact e h2), hf y hy]

theorem Mp.drop {w' : World} {m : Nat} {z : Value} {f : Int → Value} {D : DataW Value} (hf : ∀ x, inI64 x → D.atKey (.int .i64 x) (.held z) = .held (f x))
    {x : Int} {k : Nat} (ho : w'.ownsMap Tryz.prog 2 heldR m k (D.del (.int .i64 x))) : Mp w' m k z (fun y => if y = x then z else f y) := by
  refine ⟨_, ho, fun y hy => ?_⟩
  by_cases e : y = x
  · subst e
    show _ = DataW.held (if y = y then z else f y)
    rw [if_pos rfl, Go.Maps.atKey_del_same]
  · show _ = DataW.held (if y = x then z else f y)
    rw [if_neg e, Go.Maps.atKey_del_other (by intro h; injection h with h1 h2; exact e h2), hf y hy]

theorem mapTurn {w w' : World} {m : Nat} (h : w.mapTurned w' m) : Turn [m] w w' := Turn.grown h.grown (fun k hk => .inl (by cases hk; exact List.mem_singleton.2 rfl))

/-- 'delete(m, k)' at the operation, in a region that keeps its order. -/
theorem mp_delete {w : World} {ops : Array Oper} {rest : List Oper} {o : Oper} {a : Act} {Q : Exit → Act → World → Prop} (hg : o.guard = none) (s x : Operand) (T E : TypeId)
    (hop : o.op = Op.call { callee := Callee.builtin Builtin.delete, args := #[s, x], argTypes := #[T, 2] }) (ht : Tryz.prog.underlying T = some (.map 2 E))
    (m n : Nat) (z : Value) (f : Int → Value) (hm : a.eval s = .map (some m)) (hown : Mp w m n z f) (y : Int) (hx : a.eval x = .int .i64 y) (hy : inI64 y)
    (hK : ∀ w', Mp w' m n z (fun q => if q = y then z else f q) → Turn [m] w w' → wpList Tryz.prog ops Q rest (a.put o.dst (.tuple #[])) w') : wpList Tryz.prog ops Q (o :: rest) a w := by
  obtain ⟨D, hD, hf⟩ := hown
  exact wpList_delete_own w hg s x T 2 hop E i64_law ht heldR m n D hm hD _ _ hx (key_i64 hy) (fun w' h1 h2 => hK w' (Mp.drop hf h1) (mapTurn h2))

/-- 'm[k] = v' at the operation, in a region that keeps its order. -/
theorem mp_update {w : World} {ops : Array Oper} {rest : List Oper} {o : Oper} {a : Act} {Q : Exit → Act → World → Prop} (hg : o.guard = none) (s x v : Operand) (T E : TypeId)
    (hop : o.op = Op.mapUpdate T s x v) (ht : Tryz.prog.underlying T = some (.map 2 E))
    (m n : Nat) (z : Value) (f : Int → Value) (hm : a.eval s = .map (some m)) (hown : Mp w m n z f) (hn : n ≤ 1000000) (y : Int) (u : Value) (hx : a.eval x = .int .i64 y) (hv : a.eval v = u) (hy : inI64 y)
    (hK : ∀ w', Mp w' m (n + 1) z (fun q => if q = y then u else f q) → Turn [m] w w' → wpList Tryz.prog ops Q rest (a.put o.dst undef) w') : wpList Tryz.prog ops Q (o :: rest) a w := by
  obtain ⟨D, hD, hf⟩ := hown
  exact wpList_mapUpdate_in w hg s x v T hop 2 E i64_law ht heldR m n D hm hD (by unfold maxLen; omega) _ _ _ hx hv (key_i64 hy) (.held u) [] rfl (fun w' h1 h2 => hK w' (Mp.put hD hf h1) (mapTurn h2))

/-- The same where the order is drawn. -/
theorem mp_update_step {w : World} {ops : Array Oper} {o : Oper} {a : Act} {K : Act → World → Prop} {Q : Exit → Act → World → Prop} {X : Prop} (hgd : o.guard = none) (s x v : Operand) (T E : TypeId)
    (hop : o.op = Op.mapUpdate T s x v) (ht : Tryz.prog.underlying T = some (.map 2 E))
    (m n : Nat) (z : Value) (f : Int → Value) (hm : a.eval s = .map (some m)) (hown : Mp w m n z f) (hn : n ≤ 1000000) (y : Int) (u : Value) (hx : a.eval x = .int .i64 y) (hv : a.eval v = u) (hy : inI64 y)
    (hK : ∀ w', Mp w' m (n + 1) z (fun q => if q = y then u else f q) → Turn [m] w w' → K (a.put o.dst undef) w') : if Region.wanted o (yielded ops a.tmps) = true then Oper.wp Tryz.prog o a w K Q else X := by
  have hw : Region.wanted o (yielded ops a.tmps) = true := by simp [Region.wanted, hgd]
  rw [if_pos hw]
  obtain ⟨D, hD, hf⟩ := hown
  obtain ⟨w', hrun, r1, r2⟩ := hD.store i64_law ht (by unfold maxLen; omega) (val := u) (key_i64 hy) (d := .held u) (ps := []) rfl
  unfold Oper.wp
  simp [execOp, hop, hm, hx, hv, hrun, Result.andThen]
  exact hK _ (Mp.put hD hf r1) (mapTurn r2)

end Go.Proofs.YtjmainefmiefcaaGreat


/-
  What a bag of numbers tells: New, Count, Len, Kinds, At, Each.
-/
namespace Go.Proofs.YtjmainefmiefcaaGreat
open Go.RowKit

theorem newI_nil (w : World) : Calls Tryz.prog 60 #[.nilFunc] w fun e w' => e = .returned (.pointer none) ∧ w' = w := by
  have q : (binOp .eql 119 .nilFunc .nilFunc).run Tryz.prog w = .ok (.bool true) w := by kernel_rfl
  go_enter Tryz.func60, Tryz.ntmps60
  go_wp2
  go_ret
  exact ⟨rfl, rfl⟩

set_option maxHeartbeats 1000000 in
set_option maxRecDepth 100000 in
theorem newI (kc : FuncId) (cap : Array Value) (w : World) : Calls Tryz.prog 60 #[.func (.func kc) #[] cap] w fun e w' => e = .returned (.pointer (some ⟨w.heap.size, 0, none⟩)) ∧ BagI w' w.heap.size (.func (.func kc) #[] cap) (.slice none 0 0) [] ∧ Turn [] w w' := by
  go_enter Tryz.func60, Tryz.ntmps60
  go_wp2_with fail
  rw [eq_nilFunc]
  go_wp2_with fail
  go_ret
  exact ⟨rfl, ⟨heap_alloc_new w _, World.ownsRow_nil _ _ _ _, (by intro e; cases e), by simp, by simp⟩, Turn.alloc [] w _⟩

/-- How many in all. -/
def sumK (K : List (Int × Int)) : Int := K.foldl (fun a p => plusZ a p.2) 0

theorem sumK_nonneg : ∀ (K : List (Int × Int)) (a : Int), (∀ p ∈ K, 1 ≤ p.2 ∧ p.2 ≤ 9223372036854775807) → 0 ≤ a ∧ a ≤ 9223372036854775807 → 0 ≤ K.foldl (fun a p => plusZ a p.2) a ∧ K.foldl (fun a p => plusZ a p.2) a ≤ 9223372036854775807
  | [], a, _, ha => ha
  | p :: K, a, h, ha => by
    rw [List.foldl_cons]
    refine sumK_nonneg K _ (fun q hq => h q (by simp [hq])) ?_
    have := h p (by simp)
    unfold plusZ
    split <;> omega

/-- Which is at a place. -/
def atK : List (Int × Int) → Int → Option Int
  | [], _ => none
  | p :: K, i => if i < p.2 then some p.1 else atK K (i - p.2)

theorem Tryz.introw : (Tryz.prog.info? 3).map (fun i => (i.zero, i.size, i.bytes)) = some (some (.int .i64 0), 1, 8) := by kernel_rfl

theorem make_ints (w : World) (n : Nat) (hn : n ≤ 1000000) : (Instr.makeSlice 62 (.int .i64 (n : Int)) (.int .i64 (n : Int))).run Tryz.prog w = .ok (.slice (some ⟨w.heap.size, 0, none⟩) n n) (w.alloc (.cells (madeCells #[.int .i64 0] n) 3)) := by
  obtain ⟨i0, hi, hz0, hz1, hz2⟩ := info_parts Tryz.introw
  have h := run_make (P := Tryz.prog) w 62 3 i0 (.int .i64 0) Tryz.underlying62 hi hz0 .i64 .i64 (n : Int) (n : Int) (by omega) (by omega) (by rw [hz2]; omega) (by omega)
  rw [hz1] at h
  simp only [Int.toNat_natCast, Nat.mul_one] at h
  exact h

/-- The first k of the things, noughts behind them. -/
def firsts (K : List (Int × Int)) (n k : Nat) : List Value := (K.take k).map (fun p => Value.int .i64 p.1) ++ List.replicate (n - k) (.int .i64 0)

theorem firsts_set {K : List (Int × Int)} {k : Nat} (h : k < K.length) : (firsts K K.length k).set k (.int .i64 K[k].1) = firsts K K.length (k + 1) := by
  have hl : ((K.take k).map (fun p => Value.int .i64 p.1)).length = k := by simp; omega
  unfold firsts
  rw [List.set_append_right _ _ (by omega), hl, Nat.sub_self, List.take_succ_eq_append_getElem h]
  obtain ⟨m, hm⟩ : ∃ m, K.length - k = m + 1 := ⟨K.length - k - 1, by omega⟩
  rw [hm, List.replicate_succ, show K.length - (k + 1) = m by omega]
  simp only [List.set_cons_zero, List.map_append, List.map_cons, List.map_nil, List.append_assoc, List.cons_append, List.nil_append]

end Go.Proofs.YtjmainefmiefcaaGreat


/-
  A region that draws its order, by a condition that holds between its steps, whichever have been taken: each step is shown once, not once an order.
-/
namespace Go.Proofs.YtjmainefmiefcaaGreat
open Go

section
variable {P : Program} {md : Region.Mode} {ops : Array Oper} {Q : Exit → Act → World → Prop}

theorem count_set_true {L : Array Bool} {j : Nat} (hj : L.getD j true = false) : (L.setIfInBounds j true).toList.count false + 1 = L.toList.count false := by
  have hlt : j < L.size := by
    rcases Nat.lt_or_ge j L.size with h | h
    · exact h
    · simp [Array.getElem?_eq_none h] at hj
  have hj2 : L.toList[j]'(by simpa using hlt) = false := by simpa [hlt] using hj
  rw [Array.toList_setIfInBounds, List.count_set (by simpa using hlt), hj2]
  have hp : 0 < L.toList.count false := List.count_pos_iff.2 (by rw [← hj2]; exact List.getElem_mem _)
  have e1 : (if (false == false) = true then 1 else 0) = 1 := rfl
  have e2 : (if (true == false) = true then 1 else 0) = 0 := rfl
  rw [e1, e2]
  omega

theorem none_ready {L : Array Bool} (h : L.toList.count false = 0) : Region.ready md ops L = [] := by
  refine List.eq_nil_iff_forall_not_mem.2 (fun j hj => ?_)
  have h0 := (mem_ready.1 hj).1
  have := count_set_true h0
  omega

/-- The rule: what holds between the steps. -/
theorem inv_any {Inv : Array Bool → Act → World → Prop}
    (hstep : ∀ L a w j o, Inv L a w → L.getD j true = false → ops[j]? = some o → (∀ e ∈ o.after, Region.binds md e = true → L.getD e.on false = true) →
      ∀ K : Act → World → Prop, (∀ b x, Inv (L.setIfInBounds j true) b x → K b x) → if Region.wanted o (yielded ops a.tmps) = true then Oper.wp P o a w K Q else K (a.put o.dst undef) w)
    (hend : ∀ L a w, Inv L a w → Region.ready md ops L = [] → Q .normal a w) :
    ∀ (k : Nat) (L : Array Bool) (a : Act) (w : World), L.toList.count false ≤ k → Inv L a w → wpAny P md ops Q k L a w
  | 0, L, a, w, hc, h => ⟨none_ready (by omega), hend L a w h (none_ready (by omega))⟩
  | k + 1, L, a, w, hc, h => ⟨fun hr => hend L a w h hr, fun j hj => by
      obtain ⟨h0, o, ho, hd⟩ := mem_ready.1 hj
      refine wpOp_step ho (fun K' hK' => hstep L a w j o h h0 ho hd K' (fun b x hb => hK' b x (inv_any hstep hend k _ b x ?_ hb)))
      have := count_set_true h0
      omega⟩

/-- What yields its value in whatever world is taken first. -/
theorem any_take {i k : Nat} {oi : Oper} {d : Option Tmp} {v : Value} {L : Array Bool} {a : Act} {w : World} (hi : ops[i]? = some oi) (hd : oi.dst = d) (hs : Region.noSelect ops = true) (hf : Region.free md ops L i = true)
    (hr : (Region.ready md ops L).contains i = true) (hQ : ∀ c a w, Q (.panic c) (a.put d v) w → Q (.panic c) a w) (hwt : Region.wanted oi (yielded ops a.tmps) = true)
    (hy : ∀ x, (execOp a.eval oi).run P x = .ok (.value v) x)
    (h : wpAny P md ops Q k (L.setIfInBounds i true) (a.put d v) w) : wpAny P md ops Q (k + 1) L a w := by
  subst hd
  exact wpAny_take hi hs hf hr hQ (.inl ⟨hwt, hy⟩) h

/-- Each waits for earlier ones alone. -/
def forthB (md : Region.Mode) (ops : Array Oper) : Bool := (List.range ops.size).all fun j => match ops[j]? with | some o => o.after.all (fun e => !Region.binds md e || decide (e.on < j)) | none => true

theorem all_listed {L : Array Bool} (hf : forthB md ops = true) (hs : L.size = ops.size) (hr : Region.ready md ops L = []) : ∀ j, j < ops.size → L.getD j false = true := by
  intro j
  induction j using Nat.strongRecOn with
  | ind j ih =>
    intro hj
    by_cases h : L.getD j true = false
    · have : j ∈ Region.ready md ops L := mem_ready.2 ⟨h, ops[j], by simp [hj], fun e he hb => by
        have h1 := List.all_eq_true.1 hf j (List.mem_range.2 hj)
        simp only [hj, Array.getElem?_eq_getElem, Array.all_eq_true_iff_forall_mem] at h1
        have h2 := h1 e he
        simp [hb] at h2
        exact ih _ h2 (by omega)⟩
      rw [hr] at this
      cases this
    · have hlt : j < L.size := by omega
      simp [hlt] at h ⊢
      exact h

theorem listed_set {L : Array Bool} {i j : Nat} (h : L.getD i false = true) : (L.setIfInBounds j true).getD i false = true := by
  by_cases e : j = i
  · subst e
    have hlt : j < L.size := by
      rcases Nat.lt_or_ge j L.size with h1 | h1
      · exact h1
      · simp [Array.getElem?_eq_none h1] at h
    simp [hlt]
  · rw [getD_set_ne _ e]; exact h

theorem listed_of_set {L : Array Bool} {i j : Nat} (hne : j ≠ i) (h : (L.setIfInBounds j true).getD i false = true) : L.getD i false = true := by rwa [getD_set_ne _ hne] at h

theorem waits_listed {L : Array Bool} {j i : Nat} {o : Oper} (hw : Region.waitsFor md ops j i = true) (ho : ops[j]? = some o) (hd : ∀ e ∈ o.after, Region.binds md e = true → L.getD e.on false = true) : L.getD i false = true := by
  obtain ⟨oj, hoj, e, he, hb, hei⟩ := Region.waitsFor_spec hw
  rw [ho] at hoj
  cases hoj
  rw [← hei]
  exact hd e he hb

theorem not_listed {L : Array Bool} {j : Nat} (h : L.getD j true = false) : L.getD j false ≠ true := by
  have hlt : j < L.size := by
    rcases Nat.lt_or_ge j L.size with h1 | h1
    · exact h1
    · simp [Array.getElem?_eq_none h1] at h
  simp [hlt] at h ⊢
  exact h

/-- A guard that has yielded. -/
theorem wanted_of {o : Oper} {a : Act} {g d : Nat} {b : Bool} (ho : o.guard = some (g, b)) (hg : (ops[g]?).bind (·.dst) = some d) (hd : d < a.tmps.size) (hv : a.eval (.tmp d) = .bool b) : Region.wanted o (yielded ops a.tmps) = true := by
  have h2 : a.tmps[d]? = some (.bool b) := by
    simp [Act.eval, Array.getD, hd] at hv
    simp [hd, hv]
  unfold Region.wanted yielded
  rw [ho]
  simp only [hg, Option.bind_some, h2]
  simp

theorem wanted_free {o : Oper} {y : Nat → Option Bool} (ho : o.guard = none) : Region.wanted o y = true := by simp [Region.wanted, ho]

theorem no_of {b : Bool} {p : Prop} (hb : b = false) (h : b = true) : p := by rw [hb] at h; cases h

/-- The one that comes up. -/
theorem any_one {i k : Nat} {oi : Oper} {L : Array Bool} {a : Act} {w : World} (hr : Region.ready md ops L = [i]) (hi : ops[i]? = some oi)
    (h : ∀ K : Act → World → Prop, (∀ b x, wpAny P md ops Q k (L.setIfInBounds i true) b x → K b x) → if Region.wanted oi (yielded ops a.tmps) = true then Oper.wp P oi a w K Q else K (a.put oi.dst undef) w) :
    wpAny P md ops Q (k + 1) L a w := by
  refine ⟨fun h0 => (by rw [hr] at h0; cases h0), fun j hj => ?_⟩
  rw [hr] at hj
  have hji : j = i := by simpa using hj
  subst hji
  exact wpOp_step hi h

/-- All have come up. -/
theorem any_done {L : Array Bool} {a : Act} {w : World} (hr : Region.ready md ops L = []) (h : Q .normal a w) : ∀ k, wpAny P md ops Q k L a w
  | 0 => ⟨hr, h⟩
  | _ + 1 => ⟨fun _ => h, fun j hj => by rw [hr] at hj; cases hj⟩

end

theorem enter_run_ofRegInv {P : Program} {f : FuncId} {fn : Func} (hf : P.funcs[f]? = some fn) (hname : (fn.name == "runtime.NumGoroutine") = false) (hb : fn.body.isNone = false) (args : Array Value) (w : World) :
    (callFunc f args).run P w = .ok (.enter f args) w := by
  have h1 : (fn.name = "runtime.NumGoroutine") = False := by simpa using hname
  cases h2 : fn.body with
  | none => rw [h2] at hb; cases hb
  | some c => simp [callFunc, hf, h1, h2]

/-- A call of a Go function within a region. -/
theorem step_call {P : Program} {ops : Array Oper} {o : Oper} {a : Act} {w : World} {K : Act → World → Prop} {Q : Exit → Act → World → Prop} {E : Prop} (hw : Region.wanted o (yielded ops a.tmps) = true)
    {f : FuncId} {fn : Func} {args : Array Operand} {ts : Array TypeId} (vs : Array Value) (ho : o.op = .call { callee := .value (.func f), args := args, argTypes := ts }) (hv : args.map a.eval = vs)
    (hf : P.funcs[f]? = some fn) (hname : (fn.name == "runtime.NumGoroutine") = false) (hb : fn.body.isNone = false)
    (h : Calls P f vs w (fun e w' => ∃ v, e = .returned v ∧ K (a.put o.dst v) w')) : if Region.wanted o (yielded ops a.tmps) = true then Oper.wp P o a w K Q else E := by
  rw [if_pos hw]
  have he : a.eval (.func f) = .func (.func f) #[] #[] := rfl
  unfold Oper.wp execOp
  simp only [ho, resolve, he, Deferred.ofValue, invoke, Sem.run_bind, Sem.run_pure, Result.andThen_ok, hv]
  have : #[] ++ vs ++ #[] = vs := by simp
  simp only [this, enter_run_ofRegInv hf hname hb, Oper.upon_enter]
  refine h.mono ?_
  rintro e w' ⟨v, rfl, hk⟩
  exact hk

/-- append(d, x...) whose run is known. -/
theorem step_append {P : Program} {ops : Array Oper} {o : Oper} {a : Act} {w : World} {K : Act → World → Prop} {Q : Exit → Act → World → Prop} {E : Prop} (hw : Region.wanted o (yielded ops a.tmps) = true)
    (d x : Operand) (dT sT : TypeId) (hop : o.op = Op.call { callee := Callee.builtin Builtin.append, args := #[d, x], argTypes := #[dT, sT] })
    (v u : Value) (hd : a.eval d = v) (hx : a.eval x = u) {v' : Value} {w' : World} (hr : (Builtin.append_ #[dT, sT] o.type #[v, u]).run P w = .ok v' w') (hK : K (a.put o.dst v') w') :
    if Region.wanted o (yielded ops a.tmps) = true then Oper.wp P o a w K Q else E := by
  rw [if_pos hw]
  unfold Oper.wp execOp
  simp only [hop, resolve, invoke, builtin, Sem.run_bind, Sem.run_pure, Result.andThen_ok, List.map_toArray, List.map_cons, List.map_nil, hd, hx, hr]
  exact hK

/-- copy(d, x) whose run is known. -/
theorem step_copy {P : Program} {ops : Array Oper} {o : Oper} {a : Act} {w : World} {K : Act → World → Prop} {Q : Exit → Act → World → Prop} {E : Prop} (hw : Region.wanted o (yielded ops a.tmps) = true)
    (d x : Operand) (dT sT : TypeId) (hop : o.op = Op.call { callee := Callee.builtin Builtin.copy, args := #[d, x], argTypes := #[dT, sT] })
    (v u : Value) (hd : a.eval d = v) (hx : a.eval x = u) {v' : Value} {w' : World} (hr : (Builtin.copy_ #[dT, sT] o.type #[v, u]).run P w = .ok v' w') (hK : K (a.put o.dst v') w') :
    if Region.wanted o (yielded ops a.tmps) = true then Oper.wp P o a w K Q else E := by
  rw [if_pos hw]
  unfold Oper.wp
  simp [execOp, hop, resolve, invoke, builtin, hd, hx, hr, Result.andThen]
  exact hK

end Go.Proofs.YtjmainefmiefcaaGreat


/-
  Rows of things of more cells than one: copy; a row of kinds.
-/
namespace Go.Proofs.YtjmainefmiefcaaGreat
open Go.RowKit

theorem Turn.setRow {l : List Nat} (w : World) {g : Nat} (hg : g ∈ l) (cs : Array Value) : Turn l w (w.setRow g cs) := by
  refine ⟨rfl, rfl, rfl, by simp [World.setRow], fun k hk hn => ?_⟩
  simp only [World.setRow, Array.getElem?_modify]
  rw [if_neg (by intro e; exact hn (by rw [← e]; exact hg))]

/-- copy(d, s) of things of sz cells each. -/
theorem run_copy_rowN {P : Program} (w : World) (dT sT ty elem : TypeId) (g o dLen dCap : Nat) (a : Addr) (sLen sCap sz m : Nat) (cur : Array Value) (t : TypeId) (cs : List Value)
    (hu : P.underlying dT = some (.slice elem)) (hs : (P.info? elem).map (·.size) = some sz)
    (hg : w.heap[g]? = some (.cells cur t (0, 0))) (hm : m = Nat.min sLen dLen) (hn : cs.length = m * sz)
    (hsrc : ∀ j v, cs[j]? = some v → w.cell? (a.add j) = some v) (hfit : o + cs.length ≤ cur.size) (h1 : ∀ v ∈ cs, v.oneCell' = true) :
    (Builtin.copy_ #[dT, sT] ty #[.slice (some ⟨g, o, none⟩) dLen dCap, .slice (some a) sLen sCap]).run P w =
      .ok (.int .i64 (m : Int)) (w.setRow g (cur.toList.take o ++ cs ++ cur.toList.drop (o + cs.length)).toArray) := by
  have hl := run_loadCells_list (P := P) w a cs hsrc
  have hst := run_storeCells_at P g o t cs 0 cur w hg (by simpa using hfit) h1
  cases hq : P.info? elem with
  | none => simp [hq] at hs
  | some i =>
    have hi : i.size = sz := by simpa [hq] using hs
    rw [hn] at hl
    simp [Builtin.copy_, run_underlying hu, Builtin.lenOf, Builtin.firstCells, sizeOf, typeInfo, hq, hi, ← hm, hl, hst, goInt]

theorem kcells_append (A B : List (Int × Int)) : kcells (A ++ B) = kcells A ++ kcells B := by simp [kcells]

theorem kcells_take : ∀ (K : List (Int × Int)) (i : Nat), kcells (K.take i) = (kcells K).take (i * 2)
  | [], i => by simp [kcells]
  | p :: K, 0 => by simp [kcells]
  | p :: K, i + 1 => by
    have ih := kcells_take K i
    have e : kcells (p :: K) = .int .i64 p.1 :: .int .i64 p.2 :: kcells K := rfl
    have e2 : kcells (p :: K.take i) = .int .i64 p.1 :: .int .i64 p.2 :: kcells (K.take i) := rfl
    rw [List.take_succ_cons, e2, e, show (i + 1) * 2 = i * 2 + 1 + 1 by omega, List.take_succ_cons, List.take_succ_cons, ih]

theorem kcells_drop : ∀ (K : List (Int × Int)) (i : Nat), kcells (K.drop i) = (kcells K).drop (i * 2)
  | [], i => by simp [kcells]
  | p :: K, 0 => by simp
  | p :: K, i + 1 => by
    have ih := kcells_drop K i
    have e : kcells (p :: K) = .int .i64 p.1 :: .int .i64 p.2 :: kcells K := rfl
    rw [List.drop_succ_cons, e, show (i + 1) * 2 = i * 2 + 1 + 1 by omega, List.drop_succ_cons, List.drop_succ_cons, ih]

theorem kcells_one (K : List (Int × Int)) : ∀ v ∈ kcells K, v.oneCell' = true := by
  intro v hv
  obtain ⟨p, -, hp⟩ := List.mem_flatMap.1 hv
  simp at hp
  rcases hp with rfl | rfl <;> rfl

theorem Tryz.krow : (Tryz.prog.info? 191).map (fun i => (i.zero, i.size, i.bytes)) = some (some (.agg #[.int .i64 0, .int .i64 0]), 2, 16) := by kernel_rfl

theorem Tryz.ksize : (Tryz.prog.info? 191).map (·.size) = some 2 := by kernel_rfl

/-- What Insert makes of a row: in the middle of K. -/
def insK (K : List (Int × Int)) (i : Nat) (p : Int × Int) : List (Int × Int) := K.take i ++ p :: K.drop i

theorem insK_end (K : List (Int × Int)) (p : Int × Int) : insK K K.length p = K ++ [p] := by simp [insK]

theorem insK_length {K : List (Int × Int)} {i : Nat} (h : i ≤ K.length) (p : Int × Int) : (insK K i p).length = K.length + 1 := by simp [insK]; omega

theorem kcells_ins (K : List (Int × Int)) (i : Nat) (p : Int × Int) : kcells (insK K i p) = (kcells K).take (i * 2) ++ [.int .i64 p.1, .int .i64 p.2] ++ (kcells K).drop (i * 2) := by
  rw [insK, kcells_append, kcells_take, ← kcells_drop, List.append_assoc]
  rfl

/-- A row whose tail goes two cells on, and two cells take its place. -/
theorem shift_row {C L : List Value} {i n : Nat} {a b : Value} (hL : C.take (n * 2) = L) (hl : L.length = n * 2) (hi : i < n) (hC : (n + 1) * 2 ≤ C.length) {C1 C2 : List Value}
    (h1 : C1 = C.take ((i + 1) * 2) ++ L.drop (i * 2) ++ C.drop ((i + 1) * 2 + (L.drop (i * 2)).length)) (h2 : C2 = C1.take (i * 2) ++ [a, b] ++ C1.drop (i * 2 + 2)) :
    C1.length = C.length ∧ C2.length = C.length ∧ C2.take ((n + 1) * 2) = L.take (i * 2) ++ [a, b] ++ L.drop (i * 2) := by
  have hdl : (L.drop (i * 2)).length = n * 2 - i * 2 := by rw [List.length_drop, hl]
  have htl : (C.take ((i + 1) * 2)).length = (i + 1) * 2 := by rw [List.length_take]; omega
  have hl1 : C1.length = C.length := by
    rw [h1]
    simp only [List.length_append, List.length_take, List.length_drop]
    omega
  have e1 : C1.take (i * 2) = L.take (i * 2) := by
    rw [h1, List.append_assoc, List.take_append_of_le_length (by omega), List.take_take, Nat.min_eq_left (by omega), ← hL, List.take_take, Nat.min_eq_left (by omega)]
  have e2 : C1.drop (i * 2 + 2) = L.drop (i * 2) ++ C.drop ((i + 1) * 2 + (L.drop (i * 2)).length) := by
    rw [h1, List.append_assoc]
    exact List.drop_left' (by omega)
  have e3 : C2 = (L.take (i * 2) ++ [a, b] ++ L.drop (i * 2)) ++ C.drop ((i + 1) * 2 + (L.drop (i * 2)).length) := by
    rw [h2, e1, e2, ← List.append_assoc]
  have hl3 : (L.take (i * 2) ++ [a, b] ++ L.drop (i * 2)).length = (n + 1) * 2 := by
    rw [List.length_append, List.length_append, hdl, List.length_take]
    simp
    omega
  refine ⟨hl1, ?_, ?_⟩
  · rw [e3, List.length_append, hl3, List.length_drop, hdl]
    omega
  · rw [e3, List.take_left' hl3]

theorem Turn.rows {l : List Nat} {w w1 w2 : World} {g : Nat} (hg : g ∈ l) (t : Turn l w w1) (e : ∃ cs, w2 = w1.setRow g cs) : Turn l w w2 := by
  obtain ⟨cs, rfl⟩ := e
  exact t.trans (Turn.setRow w1 hg cs) (fun i hi => .inl hi)

/-- Two cells, and a tail behind them, are laid into a new row. -/
theorem grown_row {C L : List Value} {i n : Nat} {a b : Value} (hl : L.length = n * 2) (hi : i < n) (hC : (n + 1) * 2 ≤ C.length) (hL : C.take (i * 2) = L.take (i * 2)) {C1 C2 : List Value}
    (h1 : C1 = C.take (i * 2) ++ [a, b] ++ C.drop (i * 2 + 2)) (h2 : C2 = C1.take ((i + 1) * 2) ++ L.drop (i * 2) ++ C1.drop ((i + 1) * 2 + (L.drop (i * 2)).length)) :
    C1.length = C.length ∧ C2.length = C.length ∧ C2.take ((n + 1) * 2) = L.take (i * 2) ++ [a, b] ++ L.drop (i * 2) := by
  have hdl : (L.drop (i * 2)).length = n * 2 - i * 2 := by rw [List.length_drop, hl]
  have htl : (C.take (i * 2) ++ [a, b]).length = (i + 1) * 2 := by
    rw [List.length_append, List.length_take]
    simp
    omega
  have hl1 : C1.length = C.length := by
    rw [h1]
    simp only [List.length_append, List.length_take, List.length_drop, List.length_cons, List.length_nil]
    omega
  have e1 : C1.take ((i + 1) * 2) = L.take (i * 2) ++ [a, b] := by
    rw [h1, List.take_left' htl, hL]
  have hl3 : (L.take (i * 2) ++ [a, b] ++ L.drop (i * 2)).length = (n + 1) * 2 := by
    rw [List.length_append, List.length_append, hdl, List.length_take]
    simp
    omega
  rw [e1] at h2
  refine ⟨hl1, ?_, ?_⟩
  · rw [h2, List.length_append, hl3, List.length_drop, hdl]
    omega
  · rw [h2, List.take_left' hl3]

end Go.Proofs.YtjmainefmiefcaaGreat


/-
  slices.Delete of one kind out of a row.
-/
namespace Go.Proofs.YtjmainefmiefcaaGreat
open Go.RowKit

/-- append(s, x...) of things of sz cells each, where there is room. -/
theorem run_append_rowN {P : Program} (w : World) (dT sT ty elem : TypeId) (g sLen sCap : Nat) (a : Addr) (xLen xCap sz : Nat) (cur : Array Value) (t : TypeId) (cs : List Value) (i0 : TypeInfo)
    (hu : P.underlying dT = some (.slice elem)) (hu2 : P.underlying sT = some (.slice elem)) (hi : P.info? elem = some i0) (hs : i0.size = sz)
    (hg : w.heap[g]? = some (.cells cur t (0, 0))) (hn : cs.length = xLen * sz) (hroom : sLen + xLen ≤ sCap)
    (hsrc : ∀ j v, cs[j]? = some v → w.cell? (a.add j) = some v) (hfit : sLen * sz + cs.length ≤ cur.size) (h1 : ∀ v ∈ cs, v.oneCell' = true) :
    (Builtin.append_ #[dT, sT] ty #[.slice (some ⟨g, 0, none⟩) sLen sCap, .slice (some a) xLen xCap]).run P w =
      .ok (.slice (some ⟨g, 0, none⟩) (sLen + xLen) sCap) (w.setRow g (cur.toList.take (sLen * sz) ++ cs ++ cur.toList.drop (sLen * sz + cs.length)).toArray) := by
  have hl := run_loadCells_list (P := P) w a cs hsrc
  have hst := run_storeCells_at P g (sLen * sz) t cs 0 cur w hg (by simpa using hfit) h1
  rw [hn] at hl
  have e0 : (⟨g, 0, none⟩ : Addr).add (sLen * sz) = ⟨g, sLen * sz, none⟩ := by rw [Addr.add_lit, Nat.zero_add]
  simp [Builtin.append_, run_underlying hu, run_underlying hu2, sizeOf, typeInfo, hi, hs, Builtin.lenOf, Builtin.firstCells, hroom, hl, e0]
  simp at hst
  rw [hst]
  rfl

/-- clear(s) of things of sz cells each. -/
theorem run_clear_rowN {P : Program} (w : World) (dT ty elem : TypeId) (g o n c : Nat) (cur : Array Value) (t : TypeId) (z : Value) (i0 : TypeInfo)
    (hu : P.underlying dT = some (.slice elem)) (hi : P.info? elem = some i0) (hz : i0.zero = some z) (hn : 0 < n)
    (hg : w.heap[g]? = some (.cells cur t (0, 0))) (zs : List Value) (hzs : (Builtin.zeroCells z.cells n).toList = zs) (hfit : o + zs.length ≤ cur.size) (h1 : ∀ v ∈ zs, v.oneCell' = true) :
    (Builtin.clear_ #[dT] ty #[.slice (some ⟨g, o, none⟩) n c]).run P w =
      .ok (.tuple #[]) (w.setRow g (cur.toList.take o ++ zs ++ cur.toList.drop (o + zs.length)).toArray) := by
  have hst := run_storeCells_at P g o t zs 0 cur w hg (by simpa using hfit) h1
  cases n with
  | zero => omega
  | succ n =>
    simp [Builtin.clear_, run_underlying hu, zeroValue, typeInfo, hi, hz, hzs]
    simp at hst
    rw [hst]
    rfl

def delK (K : List (Int × Int)) (i : Nat) : List (Int × Int) := K.take i ++ K.drop (i + 1)

theorem delK_length {K : List (Int × Int)} {i : Nat} (h : i < K.length) : (delK K i).length = K.length - 1 := by simp [delK]; omega

theorem kcells_del (K : List (Int × Int)) (i : Nat) : kcells (delK K i) = (kcells K).take (i * 2) ++ (kcells K).drop ((i + 1) * 2) := by
  rw [delK, kcells_append, kcells_take, kcells_drop]

theorem del_row {C L : List Value} {i n : Nat} (hL : C.take (n * 2) = L) (hl : L.length = n * 2) (hi : i < n) {C1 C2 zs : List Value} (hz : zs.length = 2)
    (hC : n * 2 ≤ C.length)
    (h1 : C1 = C.take (i * 2) ++ L.drop ((i + 1) * 2) ++ C.drop (i * 2 + (L.drop ((i + 1) * 2)).length)) (h2 : C2 = C1.take ((n - 1) * 2) ++ zs ++ C1.drop ((n - 1) * 2 + zs.length)) :
    C1.length = C.length ∧ C2.length = C.length ∧ C2.take ((n - 1) * 2) = L.take (i * 2) ++ L.drop ((i + 1) * 2) := by
  have hdl : (L.drop ((i + 1) * 2)).length = n * 2 - (i + 1) * 2 := by rw [List.length_drop, hl]
  have htl : (C.take (i * 2)).length = i * 2 := by rw [List.length_take]; omega
  have e0 : C.take (i * 2) = L.take (i * 2) := by rw [← hL, List.take_take, Nat.min_eq_left (by omega)]
  have hl1 : C1.length = C.length := by
    rw [h1]
    simp only [List.length_append, List.length_take, List.length_drop]
    omega
  have hA : (C.take (i * 2) ++ L.drop ((i + 1) * 2)).length = (n - 1) * 2 := by rw [List.length_append, htl, hdl]; omega
  have e1 : C1.take ((n - 1) * 2) = L.take (i * 2) ++ L.drop ((i + 1) * 2) := by rw [h1, List.take_left' hA, e0]
  have hA' : (L.take (i * 2) ++ L.drop ((i + 1) * 2)).length = (n - 1) * 2 := by rw [← e0]; exact hA
  rw [e1] at h2
  refine ⟨hl1, ?_, ?_⟩
  · rw [h2, List.length_append, List.length_append, hA', hz, List.length_drop, hl1]
    omega
  · rw [h2, List.append_assoc, List.take_left' hA']

end Go.Proofs.YtjmainefmiefcaaGreat


/-
  Rows of a timer's ones: slices.Insert, slices.Delete.
-/
namespace Go.Proofs.YtjmainefmiefcaaGreat.L
open Go.RowKit

theorem Tryz.krow : (Tryz.prog.info? 86).map (fun i => (i.zero, i.size, i.bytes)) = some (some (.agg #[.int .i64 0, .int .i64 0]), 2, 16) := by kernel_rfl

theorem Tryz.ksize : (Tryz.prog.info? 86).map (·.size) = some 2 := by kernel_rfl

set_option maxHeartbeats 2000000 in
set_option maxRecDepth 100000 in
/-- slices.Insert at the end. -/
theorem insert_end {w : World} {v : Value} {K : List (Int × Int)} (h : w.ownsRow 0 86 2 v K.length (kcells K)) (hfew : K.length ≤ 1000) (p : Int × Int) {tb : Nat}
    (hx : w.cell? ⟨tb, 0, none⟩ = some (.int .i64 p.1)) (hy : w.cell? ⟨tb, 1, none⟩ = some (.int .i64 p.2)) :
    Calls Tryz.prog 54 #[v, .int .i64 (K.length : Int), .slice (some ⟨tb, 0, none⟩) 1 1] w fun e w' =>
      ∃ v', e = .returned v' ∧ w'.ownsRow 0 86 2 v' (K.length + 1) (kcells (insK K K.length p)) ∧ (v'.ownBlock = v.ownBlock ∨ v'.ownBlock = some w.heap.size) ∧ Turn v.ownBlock.toList w w' := by
  obtain ⟨i0, hi, hz0, hz1, hz2⟩ := info_parts Tryz.krow
  have HR := Lib.hid h
  obtain ⟨n, hn⟩ : ∃ n, n = K.length := ⟨_, rfl⟩
  have HN := Lib.hid hn
  have HI := Lib.hid hi
  have HX : Hid (∀ j u, [Value.int .i64 p.1, .int .i64 p.2][j]? = some u → w.cell? ((⟨tb, 0, none⟩ : Addr).add j) = some u) := Lib.hid (fun j u hj => by
    match j, hj with
    | 0, hj => simp at hj; rw [← hj, Addr.add_lit]; exact hx
    | 1, hj => simp at hj; rw [← hj, Addr.add_lit]; exact hy
    | j + 2, hj => simp at hj)
  have HO : Hid (∀ u ∈ [Value.int .i64 p.1, .int .i64 p.2], u.oneCell' = true) := Lib.hid (by intro u hu; simp at hu; rcases hu with rfl | rfl <;> rfl)
  have hvs : ∃ ao cap, v = .slice ao K.length cap ∧ K.length ≤ cap ∧ cap ≤ maxLen := by
    rcases h.2 with ⟨rfl, h0⟩ | ⟨g, cap, cur, rfl, _, _, hle, hmx, _⟩
    · exact ⟨none, 0, by rw [h0], by omega, by unfold maxLen; omega⟩
    · exact ⟨_, cap, rfl, hle, hmx⟩
  obtain ⟨ao, cap, rfl, hle, hmx⟩ := hvs
  unfold maxLen at hmx
  rw [← hn] at hle hfew ⊢
  obtain ⟨ob, hob⟩ : ∃ ob, ob = (Value.slice ao n cap).ownBlock := ⟨_, rfl⟩
  have HE := Lib.hid (show ∀ c', (Value.slice ao n c').ownBlock = ob from fun _ => by rw [hob]; cases ao <;> rfl)
  rw [← hob]
  clear h hn hi hx hy hob
  go_enter Tryz.func54, Tryz.ntmps54
  go_wp2_with (at_builtin; refine wpList_append_own_at w rfl (.tmp 23) (.tmp 24) 80 rfl 0 86 i0 _ 2 16 Tryz.underlying80 HI.out hz0 hz1 hz2 rfl (by decide) (.slice ao n cap) n (kcells K) rfl (by rw [HN.out]; exact HR.out) ⟨tb, 0, none⟩ 1 1 [.int .i64 p.1, .int .i64 p.2] rfl rfl HX.out HO.out (by unfold maxLen; omega) (by omega) (Nat.zero_le _) ?_)
  all_goals
    intro v' w' h1 h2 _ h4
    rw [HE.out] at h2 h4
    have H1 : Hid (w'.ownsRow 0 86 2 v' (n + 1) (kcells (insK K n p))) := Lib.hid (by rw [HN.out, insK_end, kcells_append, ← HN.out]; exact h1)
    have H2 := Lib.hid (Turn.grown h2 (fun k hk => .inl (Option.mem_toList.2 hk)))
    have H4 := Lib.hid h4
    clear h1 h2 h4
    go_wp2
    go_ret
    exact ⟨v', rfl, H1.out, H4.out, H2.out⟩

set_option maxHeartbeats 2000000 in
set_option maxRecDepth 100000 in
/-- slices.Insert in the middle, where there is room. -/
theorem insert_shift {w : World} {g cap : Nat} {cur : Array Value} {K : List (Int × Int)} (hg : w.heap[g]? = some (.cells cur 86 (0, 0))) (hsz : cur.size = cap * 2) (htk : cur.toList.take (K.length * 2) = kcells K) (hfew : K.length ≤ 1000) (hmx : cap ≤ maxLen) {i : Nat} (hi : i < K.length) (hroom : K.length + 1 ≤ cap) (p : Int × Int) {tb : Nat}
    (ht : w.heap[tb]? = some (.cells #[.int .i64 p.1, .int .i64 p.2] 86)) (hne : tb ≠ g) :
    Calls Tryz.prog 54 #[.slice (some ⟨g, 0, none⟩) K.length cap, .int .i64 (i : Int), .slice (some ⟨tb, 0, none⟩) 1 1] w fun e w' =>
      e = .returned (.slice (some ⟨g, 0, none⟩) (K.length + 1) cap) ∧ w'.ownsRow 0 86 2 (.slice (some ⟨g, 0, none⟩) (K.length + 1) cap) (K.length + 1) (kcells (insK K i p)) ∧ Turn [g] w w' := by
  obtain ⟨n, hn⟩ : ∃ n, n = K.length := ⟨_, rfl⟩
  have hkl := kcells_length K
  unfold maxLen at hmx
  have hov : ∀ lb cb, (callFunc 79 #[.slice (some ⟨tb, 0, none⟩) 1 1, .slice (some ⟨g, (i + 1) * 2, none⟩) lb cb]).run Tryz.prog w = .ok (.value (.bool false)) w := fun lb cb => by
    have hsa : w.shape? tb = some (86, 2) := by simp [World.shape?, ht]
    have hsb : w.shape? g = some (86, cap * 2) := by simp [World.shape?, hg, hsz]
    rw [run_callFunc_extern Tryz.func79 (by kernel_rfl) (by kernel_rfl) (by kernel_rfl) (e := Extern.SlicesOverlaps.overlaps #[80, 80] #[4]) (by kernel_rfl),
      Lib.run_overlaps_apart w 80 4 86 Tryz.underlying80 2 (fun _ => by kernel_rfl) ⟨tb, 0, none⟩ ⟨g, (i + 1) * 2, none⟩ 1 1 lb cb hne _ _ 2 (cap * 2) hsa hsb (by omega) (by simp [World.frozen?, ht]) (by simp [World.frozen?, ht])]
    rfl
  have HN := Lib.hid hn
  rw [← hn] at hi hroom hfew htk hkl ⊢
  clear hn
  go_enter Tryz.func54, Tryz.ntmps54
  have hb3 : (i : Int) ≤ (n : Int) := by omega
  have hz2 : ((i : Int) == (n : Int)) = false := by simp; omega
  have hz3 : ¬ (cap : Int) < (n : Int) + 1 := by omega
  have hw1 : IntKind.i64.wrap ((i : Int) + 1) = (i : Int) + 1 := by rw [IntKind.wrap_i64]; omega
  have htn : ((i : Int) + 1).toNat = i + 1 := by omega
  have hb1 : (0 : Int) ≤ (i : Int) + 1 := by omega
  have hin : i ≤ n := by omega
  have hb5 : (i : Int) ≤ (n : Int) + 1 := by omega
  have hb2 : ¬ cap = i + 1 := by omega
  have hb4 : ¬ cap = i := by omega
  go_wp2_with fail
  refine wp_region_any (by kernel_rfl) ?_
  refine any_take (i := 0) (d := some 69) (v := ?_) rfl (by rfl) (by kernel_rfl) (by kernel_rfl) (by kernel_rfl) (fun _ _ _ h => h) (by rfl) ?_ ?_
  rotate_left
  · intro wz
    go_simp
    try with_reducible rfl
  simp only [Act.put, List.setIfInBounds_toArray, List.set_cons_zero, List.set_cons_succ]
  refine any_take (i := 1) (d := some 70) (v := ?_) rfl (by rfl) (by kernel_rfl) (by kernel_rfl) (by kernel_rfl) (fun _ _ _ h => h) (by rfl) ?_ ?_
  rotate_left
  · intro wz
    go_simp
    try with_reducible rfl
  simp only [Act.put, List.setIfInBounds_toArray, List.set_cons_zero, List.set_cons_succ]
  refine any_take (i := 2) (d := some 71) (v := ?_) rfl (by rfl) (by kernel_rfl) (by kernel_rfl) (by kernel_rfl) (fun _ _ _ h => h) (by rfl) ?_ ?_
  rotate_left
  · intro wz
    go_simp
    try with_reducible rfl
  simp only [Act.put, List.setIfInBounds_toArray, List.set_cons_zero, List.set_cons_succ]
  refine any_take (i := 3) (d := some 72) (v := ?_) rfl (by rfl) (by kernel_rfl) (by kernel_rfl) (by kernel_rfl) (fun _ _ _ h => h) (by rfl) ?_ ?_
  rotate_left
  · intro wz
    go_simp
    try with_reducible rfl
  simp only [Act.put, List.setIfInBounds_toArray, List.set_cons_zero, List.set_cons_succ]
  refine any_take (i := 4) (d := some 73) (v := .slice (some ⟨g, (i + 1) * 2, none⟩) (n - i) (cap - (i + 1))) rfl (by rfl) (by kernel_rfl) (by kernel_rfl) (by kernel_rfl) (fun _ _ _ h => h) (by rfl) ?_ ?_
  · intro wz
    go_simp
  simp only [Act.put, List.setIfInBounds_toArray, List.set_cons_zero, List.set_cons_succ]
  refine any_take (i := 5) (d := some 74) (v := ?_) rfl (by rfl) (by kernel_rfl) (by kernel_rfl) (by kernel_rfl) (fun _ _ _ h => h) (by rfl) ?_ ?_
  rotate_left
  · intro wz
    go_simp
    try with_reducible rfl
  simp only [Act.put, List.setIfInBounds_toArray, List.set_cons_zero, List.set_cons_succ]
  refine any_take (i := 6) (d := some 75) (v := ?_) rfl (by rfl) (by kernel_rfl) (by kernel_rfl) (by kernel_rfl) (fun _ _ _ h => h) (by rfl) ?_ ?_
  rotate_left
  · intro wz
    go_simp
    try with_reducible rfl
  simp only [Act.put, List.setIfInBounds_toArray, List.set_cons_zero, List.set_cons_succ]
  refine any_take (i := 7) (d := some 76) (v := .slice (some ⟨g, i * 2, none⟩) (n + 1 - i) (cap - i)) rfl (by rfl) (by kernel_rfl) (by kernel_rfl) (by kernel_rfl) (fun _ _ _ h => h) (by rfl) ?_ ?_
  · intro wz
    go_simp
  simp only [Act.put, List.setIfInBounds_toArray, List.set_cons_zero, List.set_cons_succ]
  obtain ⟨L, hL⟩ : ∃ L, L = kcells K := ⟨_, rfl⟩
  rw [← hL] at htk hkl
  obtain ⟨C1, hC1⟩ : ∃ C1, C1 = cur.toList.take ((i + 1) * 2) ++ L.drop (i * 2) ++ cur.toList.drop ((i + 1) * 2 + (L.drop (i * 2)).length) := ⟨_, rfl⟩
  obtain ⟨C2, hC2⟩ : ∃ C2, C2 = C1.take (i * 2) ++ [.int .i64 p.1, .int .i64 p.2] ++ C1.drop (i * 2 + 2) := ⟨_, rfl⟩
  obtain ⟨hl1, hl2, htk2⟩ := shift_row htk hkl hi (by rw [Array.length_toList]; omega) hC1 hC2
  have hg0 : w.drew.heap[g]? = some (.cells cur 86 (0, 0)) := hg
  have hdl : (L.drop (i * 2)).length = (n - i) * 2 := by rw [List.length_drop, hkl]; omega
  have hcp1 := run_copy_rowN (P := Tryz.prog) w.drew 80 80 3 86 g ((i + 1) * 2) (n - i) (cap - (i + 1)) ⟨g, i * 2, none⟩ (n + 1 - i) (cap - i) 2 (n - i) cur _ (L.drop (i * 2)) Tryz.underlying80 Tryz.ksize hg0
    (by simp only [Nat.min_def]; split <;> omega) hdl
    (fun j v hj => by
      rw [Addr.add_lit, cell_of_row _ _ _ _ _ _ hg0]
      rw [List.getElem?_drop, ← htk] at hj
      have h9 : i * 2 + j < n * 2 := by
        rcases Nat.lt_or_ge (i * 2 + j) (n * 2) with h | h
        · exact h
        · rw [List.getElem?_eq_none (by rw [List.length_take]; omega)] at hj; cases hj
      rw [List.getElem?_take_of_lt h9] at hj
      simpa using hj)
    (by rw [hdl, hsz]; omega) (fun v hv => kcells_one K v (by rw [← hL]; exact List.mem_of_mem_drop hv))
  rw [← hC1] at hcp1
  obtain ⟨W1, hW1⟩ : ∃ W1, W1 = w.drew.setRow g C1.toArray := ⟨_, rfl⟩
  rw [← hW1] at hcp1
  have hg1 : W1.heap[g]? = some (.cells C1.toArray 86 (0, 0)) := by rw [hW1]; exact setRow_heap _ _ _ _ _ _ hg0
  have t1 : Turn [g] w W1 := Turn.rows (by simp) (Turn.drew _ w) ⟨_, hW1⟩
  have ht1 := t1.heap ht (by simpa using hne)
  have hcp2 := run_copy_rowN (P := Tryz.prog) W1 80 80 3 86 g (i * 2) (n + 1 - i) (cap - i) ⟨tb, 0, none⟩ 1 1 2 1 C1.toArray _ [.int .i64 p.1, .int .i64 p.2] Tryz.underlying80 Tryz.ksize hg1
    (by simp only [Nat.min_def]; split <;> omega) rfl
    (fun j v hj => by
      rw [Addr.add_lit, cell_of_row _ _ _ _ _ _ ht1]
      match j, hj with
      | 0, hj => simpa using hj
      | 1, hj => simpa using hj
      | j + 2, hj => simp at hj)
    (by simp [hl1, hsz]; omega) (by intro u hu; simp at hu; rcases hu with rfl | rfl <;> rfl)
  have e2 : (C1.toArray.toList.take (i * 2) ++ [.int .i64 p.1, .int .i64 p.2] ++ C1.toArray.toList.drop (i * 2 + [Value.int .i64 p.1, .int .i64 p.2].length)) = C2 := by rw [hC2]; rfl
  rw [e2] at hcp2
  obtain ⟨W2, hW2⟩ : ∃ W2, W2 = W1.setRow g C2.toArray := ⟨_, rfl⟩
  rw [← hW2] at hcp2
  have HCP2 := Lib.hid hcp2
  have T2 := Lib.hid (Turn.rows (g := g) (by simp) t1 ⟨_, hW2⟩)
  have R2 : Hid (W2.ownsRow 0 86 2 (.slice (some ⟨g, 0, none⟩) (n + 1) cap) (n + 1) (kcells (insK K i p))) := Lib.hid (by
    refine ⟨by rw [kcells_length, insK_length (by rw [← HN.out]; omega), HN.out], .inr ⟨g, cap, C2.toArray, rfl, Nat.zero_le _, by rw [hW2]; exact setRow_heap _ _ _ _ _ _ hg1, hroom, by unfold maxLen; omega, by simp [hl2, hsz], ?_⟩⟩
    rw [kcells_ins, ← hL]
    exact htk2)
  refine any_one (i := 8) (by kernel_rfl) (by rfl) (fun KK hKK => ?_)
  refine step_copy (by rfl) (.tmp 73) (.tmp 76) 80 80 rfl _ _ rfl rfl hcp1 ?_
  refine hKK _ _ ?_
  show wpAny _ _ _ _ _ _ (Act.put _ (some 77) _) _
  simp only [Act.put, List.setIfInBounds_toArray, List.set_cons_zero, List.set_cons_succ]
  refine any_done (by kernel_rfl) ?_ _
  clear hcp1 hcp2 hg0 hg1 hC1 hC2 hl1 hl2 htk2 t1 ht1 hW1 hW2 hdl e2 hg ht hsz htk hkl hL
  go_wp2_with fail
  rw [HCP2.out]
  go_wp2
  go_ret
  exact ⟨rfl, R2.out, T2.out⟩

set_option maxHeartbeats 2000000 in
set_option maxRecDepth 100000 in
/-- slices.Insert in the middle, where there is no room. -/
theorem insert_grow {w : World} {g cap : Nat} {cur : Array Value} {K : List (Int × Int)} (hg : w.heap[g]? = some (.cells cur 86 (0, 0))) (htk : cur.toList.take (K.length * 2) = kcells K) (hfew : K.length ≤ 1000) {i : Nat} (hi : i < K.length) (hle : K.length ≤ cap) (hroom : cap < K.length + 1) (p : Int × Int) {tb : Nat}
    (ht : w.heap[tb]? = some (.cells #[.int .i64 p.1, .int .i64 p.2] 86)) :
    Calls Tryz.prog 54 #[.slice (some ⟨g, 0, none⟩) K.length cap, .int .i64 (i : Int), .slice (some ⟨tb, 0, none⟩) 1 1] w fun e w' =>
      ∃ G, e = .returned (.slice (some ⟨w.heap.size, 0, none⟩) (K.length + 1) G) ∧ w'.ownsRow 0 86 2 (.slice (some ⟨w.heap.size, 0, none⟩) (K.length + 1) G) (K.length + 1) (kcells (insK K i p)) ∧ Turn [] w w' := by
  obtain ⟨n, hn⟩ : ∃ n, n = K.length := ⟨_, rfl⟩
  have hkl := kcells_length K
  have HN := Lib.hid hn
  obtain ⟨L, hL⟩ : ∃ L, L = kcells K := ⟨_, rfl⟩
  rw [← hL] at htk hkl
  rw [← hn] at hi hroom hle hfew htk hkl ⊢
  clear hn
  obtain ⟨i0, hi0, hz0, hz1, hz2⟩ := info_parts Tryz.krow
  have hgw : g < w.heap.size := lt_of_heap hg
  have htw : tb < w.heap.size := lt_of_heap ht
  have hold : (Builtin.firstCells i0.size i (.slice (some ⟨g, 0, none⟩) i cap)).run Tryz.prog w.drew = .ok (L.take (i * 2)).toArray w.drew := by
    rw [hz1]
    exact run_firstCells_some w.drew 2 i ⟨g, 0, none⟩ i cap (L.take (i * 2)) (by rw [List.length_take]; omega) (fun j v hj => by
      have hg0 : w.drew.heap[g]? = some (.cells cur 86 (0, 0)) := hg
      rw [Addr.add_lit, Nat.zero_add, cell_of_row _ _ _ _ _ _ hg0]
      rw [← htk, List.take_take, Nat.min_eq_left (by omega)] at hj
      have h9 : j < i * 2 := by
        rcases Nat.lt_or_ge j (i * 2) with h | h
        · exact h
        · rw [List.getElem?_eq_none (by rw [List.length_take]; omega)] at hj; cases hj
      rw [List.getElem?_take_of_lt h9] at hj
      simpa using hj)
  obtain ⟨q, hq⟩ : ∃ q, q = w.heap.size := ⟨_, rfl⟩
  have hrz := Lib.run_append_grow_zeros w 80 3 80 86 i0 _ .i64 .i64 Tryz.underlying80 Tryz.underlying3 hi0 hz0 (some ⟨g, 0, none⟩) i cap (L.take (i * 2)) hold (n + 1 - i) (by omega) (by omega) (by omega) (by omega) (by rw [hz2]; omega) (by rw [hz2]; exact growslice_fits (by omega) (by omega))
  rw [show i + (n + 1 - i) = n + 1 by omega, ← hq] at hrz
  obtain ⟨G, hG⟩ : ∃ G, G = grownCap w (n + 1) cap 86 := ⟨_, rfl⟩
  have hGn : n + 1 ≤ G := by rw [hG]; exact grownCap_ge w _ _ _
  have hG63 : G ≤ maxLen := by rw [hG]; exact grownCap_le_maxLen w (n + 1) cap 86 (by unfold maxLen; omega)
  rw [← hG] at hrz
  obtain ⟨ROW, hROW⟩ : ∃ ROW : Array Value, ROW = (L.take (i * 2)).toArray ++ Builtin.zeroCells (Value.agg #[.int .i64 0, .int .i64 0]).cells (n + 1 - i) ++ Builtin.zeroCells (Value.agg #[.int .i64 0, .int .i64 0]).cells (G - (n + 1)) := ⟨_, rfl⟩
  rw [← hROW] at hrz
  have hRs : ROW.size = G * 2 := by
    rw [hROW]
    simp [Builtin.zeroCells, Value.cells]
    omega
  have hRt : ROW.toList.take (i * 2) = L.take (i * 2) := by
    rw [hROW]
    simp only [Array.toList_append, List.append_assoc]
    exact List.take_left' (by rw [List.length_take]; omega)
  obtain ⟨C1, hC1⟩ : ∃ C1, C1 = ROW.toList.take (i * 2) ++ [.int .i64 p.1, .int .i64 p.2] ++ ROW.toList.drop (i * 2 + 2) := ⟨_, rfl⟩
  obtain ⟨C2, hC2⟩ : ∃ C2, C2 = C1.take ((i + 1) * 2) ++ L.drop (i * 2) ++ C1.drop ((i + 1) * 2 + (L.drop (i * 2)).length) := ⟨_, rfl⟩
  obtain ⟨hl1, hl2, htk2⟩ := grown_row hkl hi (by rw [Array.length_toList, hRs]; omega) hRt hC1 hC2
  have hRl : ROW.toList.length = G * 2 := by rw [Array.length_toList]; exact hRs
  rw [hRl] at hl1 hl2
  clear hRl
  obtain ⟨W1, hW1⟩ : ∃ W1, W1 = w.drew.alloc (.cells ROW 86) := ⟨_, rfl⟩
  rw [← hW1] at hrz
  have t1 : Turn [] w W1 := by rw [hW1]; exact (Turn.drew [] w).trans (Turn.alloc [] _ _) (by simp)
  have hg1 : W1.heap[q]? = some (.cells ROW 86 (0, 0)) := by rw [hW1, hq]; exact heap_alloc_new w.drew _
  have hcp1 := run_copy_rowN (P := Tryz.prog) W1 80 80 3 86 q (i * 2) (n + 1 - i) (G - i) ⟨tb, 0, none⟩ 1 1 2 1 ROW _ [.int .i64 p.1, .int .i64 p.2] Tryz.underlying80 Tryz.ksize hg1
    (by simp only [Nat.min_def]; split <;> omega) rfl
    (fun j v hj => by
      rw [Addr.add_lit, cell_of_row _ _ _ _ _ _ (t1.heap ht (by simp))]
      match j, hj with
      | 0, hj => simpa using hj
      | 1, hj => simpa using hj
      | j + 2, hj => simp at hj)
    (by simp [hRs]; omega) (by intro u hu; simp at hu; rcases hu with rfl | rfl <;> rfl)
  have e1 : (ROW.toList.take (i * 2) ++ [.int .i64 p.1, .int .i64 p.2] ++ ROW.toList.drop (i * 2 + [Value.int .i64 p.1, .int .i64 p.2].length)) = C1 := by rw [hC1]; rfl
  rw [e1] at hcp1
  obtain ⟨W2, hW2⟩ : ∃ W2, W2 = W1.setRow q C1.toArray := ⟨_, rfl⟩
  rw [← hW2] at hcp1
  have hg2 : W2.heap[q]? = some (.cells C1.toArray 86 (0, 0)) := by rw [hW2]; exact setRow_heap _ _ _ _ _ _ hg1
  have t2 : Turn [q] w W2 := Turn.rows (by simp) (t1.mono (by simp)) ⟨_, hW2⟩
  have hdl : (L.drop (i * 2)).length = (n - i) * 2 := by rw [List.length_drop, hkl]; omega
  have hgo := t2.heap hg (by simp; omega)
  have hcp2 := run_copy_rowN (P := Tryz.prog) W2.drew 80 80 3 86 q ((i + 1) * 2) (n - i) (G - (i + 1)) ⟨g, i * 2, none⟩ (n - i) (cap - i) 2 (n - i) C1.toArray _ (L.drop (i * 2)) Tryz.underlying80 Tryz.ksize hg2
    (by simp) hdl
    (fun j v hj => by
      have hgo' : W2.drew.heap[g]? = some (.cells cur 86 (0, 0)) := hgo
      rw [Addr.add_lit, cell_of_row _ _ _ _ _ _ hgo']
      rw [List.getElem?_drop, ← htk] at hj
      have h9 : i * 2 + j < n * 2 := by
        rcases Nat.lt_or_ge (i * 2 + j) (n * 2) with h | h
        · exact h
        · rw [List.getElem?_eq_none (by rw [List.length_take]; omega)] at hj; cases hj
      rw [List.getElem?_take_of_lt h9] at hj
      simpa using hj)
    (by rw [hdl]; simp [hl1]; omega) (fun v hv => kcells_one K v (by rw [← hL]; exact List.mem_of_mem_drop hv))
  rw [show C1.toArray.toList = C1 from rfl, ← hC2] at hcp2
  obtain ⟨W3, hW3⟩ : ∃ W3, W3 = W2.drew.setRow q C2.toArray := ⟨_, rfl⟩
  rw [← hW3] at hcp2
  have HRZ := Lib.hid hrz
  have HCP1 := Lib.hid hcp1
  have HCP2 := Lib.hid hcp2
  have T3 : Hid (Turn [] w W3) := Lib.hid ((Turn.rows (g := q) (by simp) (t2.trans (Turn.drew [q] W2) (fun i hi => .inl hi)) ⟨_, hW3⟩).mono (fun k hk => .inr (by rw [List.mem_singleton.1 hk, hq]; exact Nat.le_refl _)))
  have R3 : Hid (W3.ownsRow 0 86 2 (.slice (some ⟨q, 0, none⟩) (n + 1) G) (n + 1) (kcells (insK K i p))) := Lib.hid (by
    refine ⟨by rw [kcells_length, insK_length (by rw [← HN.out]; omega), HN.out], .inr ⟨q, G, C2.toArray, rfl, Nat.zero_le _, by rw [hW3]; exact setRow_heap W2.drew _ _ _ _ _ hg2, hGn, hG63, by simp [hl2], ?_⟩⟩
    rw [kcells_ins, ← hL]
    exact htk2)
  rw [← hq]
  unfold maxLen at hG63
  clear hrz hcp1 hcp2 hg1 hg2 hC1 hC2 hl1 hl2 htk2 t1 t2 hW1 hW2 hW3 hdl e1 hg ht htk hkl hL hold hROW hRs hRt hgo hG hq hi0 hz0 hz1 hz2
  go_enter Tryz.func54, Tryz.ntmps54
  have hb3 : (i : Int) ≤ (n : Int) := by omega
  have hz2 : ((i : Int) == (n : Int)) = false := by simp; omega
  have hz3 : (cap : Int) < (n : Int) + 1 := by omega
  have hw1 : IntKind.i64.wrap ((i : Int) + 1) = (i : Int) + 1 := by rw [IntKind.wrap_i64]; omega
  have htn : ((i : Int) + 1).toNat = i + 1 := by omega
  have hb1 : (0 : Int) ≤ (i : Int) + 1 := by omega
  have hin : i ≤ n := by omega
  have hb5 : (i : Int) ≤ (n : Int) + 1 := by omega
  have hb4 : ¬ cap = i := by omega
  have hb6 : ¬ G = i := by omega
  have hb7 : ¬ G = i + 1 := by omega
  have hkk : (n : Int) + 1 - (i : Int) = ((n + 1 - i : Nat) : Int) := by omega
  go_wp2_with (at_builtin; refine Lib.wpList_append_run w rfl (.tmp 34) (.tmp 39) 80 3 rfl _ _ rfl rfl _ _ HRZ.out ?_)
  rw [HCP1.out]
  go_wp2_with fail
  refine wp_region_any (by kernel_rfl) ?_
  refine any_take (i := 0) (d := some 46) (v := ?_) rfl (by rfl) (by kernel_rfl) (by kernel_rfl) (by kernel_rfl) (fun _ _ _ h => h) (by rfl) ?_ ?_
  rotate_left
  · intro wz
    go_simp
    try with_reducible rfl
  simp only [Act.put, List.setIfInBounds_toArray, List.set_cons_zero, List.set_cons_succ]
  refine any_take (i := 1) (d := some 47) (v := ?_) rfl (by rfl) (by kernel_rfl) (by kernel_rfl) (by kernel_rfl) (fun _ _ _ h => h) (by rfl) ?_ ?_
  rotate_left
  · intro wz
    go_simp
    try with_reducible rfl
  simp only [Act.put, List.setIfInBounds_toArray, List.set_cons_zero, List.set_cons_succ]
  refine any_take (i := 2) (d := some 48) (v := ?_) rfl (by rfl) (by kernel_rfl) (by kernel_rfl) (by kernel_rfl) (fun _ _ _ h => h) (by rfl) ?_ ?_
  rotate_left
  · intro wz
    go_simp
    try with_reducible rfl
  simp only [Act.put, List.setIfInBounds_toArray, List.set_cons_zero, List.set_cons_succ]
  refine any_take (i := 3) (d := some 49) (v := ?_) rfl (by rfl) (by kernel_rfl) (by kernel_rfl) (by kernel_rfl) (fun _ _ _ h => h) (by rfl) ?_ ?_
  rotate_left
  · intro wz
    go_simp
    try with_reducible rfl
  simp only [Act.put, List.setIfInBounds_toArray, List.set_cons_zero, List.set_cons_succ]
  refine any_take (i := 4) (d := some 50) (v := .slice (some ⟨q, (i + 1) * 2, none⟩) (n - i) (G - (i + 1))) rfl (by rfl) (by kernel_rfl) (by kernel_rfl) (by kernel_rfl) (fun _ _ _ h => h) (by rfl) ?_ ?_
  · intro wz
    go_simp
  simp only [Act.put, List.setIfInBounds_toArray, List.set_cons_zero, List.set_cons_succ]
  refine any_take (i := 5) (d := some 51) (v := ?_) rfl (by rfl) (by kernel_rfl) (by kernel_rfl) (by kernel_rfl) (fun _ _ _ h => h) (by rfl) ?_ ?_
  rotate_left
  · intro wz
    go_simp
    try with_reducible rfl
  simp only [Act.put, List.setIfInBounds_toArray, List.set_cons_zero, List.set_cons_succ]
  refine any_take (i := 6) (d := some 52) (v := ?_) rfl (by rfl) (by kernel_rfl) (by kernel_rfl) (by kernel_rfl) (fun _ _ _ h => h) (by rfl) ?_ ?_
  rotate_left
  · intro wz
    go_simp
    try with_reducible rfl
  simp only [Act.put, List.setIfInBounds_toArray, List.set_cons_zero, List.set_cons_succ]
  refine any_take (i := 7) (d := some 53) (v := .slice (some ⟨g, i * 2, none⟩) (n - i) (cap - i)) rfl (by rfl) (by kernel_rfl) (by kernel_rfl) (by kernel_rfl) (fun _ _ _ h => h) (by rfl) ?_ ?_
  · intro wz
    go_simp
  simp only [Act.put, List.setIfInBounds_toArray, List.set_cons_zero, List.set_cons_succ]
  refine any_one (i := 8) (by kernel_rfl) (by rfl) (fun KK hKK => ?_)
  refine step_copy (by rfl) (.tmp 50) (.tmp 53) 80 80 rfl _ _ rfl rfl HCP2.out ?_
  refine hKK _ _ ?_
  show wpAny _ _ _ _ _ _ (Act.put _ (some 54) _) _
  simp only [Act.put, List.setIfInBounds_toArray, List.set_cons_zero, List.set_cons_succ]
  refine any_done (by kernel_rfl) ?_ _
  go_wp2
  go_ret
  exact ⟨G, rfl, R3.out, T3.out⟩

/-- A kind of its own put into a row: wherever, whether there is room or not. -/
theorem insert_calls {w : World} {v : Value} {K : List (Int × Int)} (h : w.ownsRow 0 86 2 v K.length (kcells K)) (hfew : K.length ≤ 1000) {i : Nat} (hi : i ≤ K.length) (p : Int × Int) {tb : Nat}
    (ht : w.heap[tb]? = some (.cells #[.int .i64 p.1, .int .i64 p.2] 86)) (hne : v.ownBlock ≠ some tb) :
    Calls Tryz.prog 54 #[v, .int .i64 (i : Int), .slice (some ⟨tb, 0, none⟩) 1 1] w fun e w' =>
      ∃ v', e = .returned v' ∧ w'.ownsRow 0 86 2 v' (K.length + 1) (kcells (insK K i p)) ∧ (v'.ownBlock = v.ownBlock ∨ v'.ownBlock = some w.heap.size) ∧ Turn v.ownBlock.toList w w' := by
  by_cases hin : i = K.length
  · subst hin
    exact insert_end h hfew p (by rw [cell_of_row _ _ _ _ _ _ ht]; rfl) (by rw [cell_of_row _ _ _ _ _ _ ht]; rfl)
  · rcases h.2 with ⟨rfl, h0⟩ | ⟨g, cap, cur, rfl, _, hg, hle, hmx, hsz, htk⟩
    · omega
    · by_cases hroom : K.length + 1 ≤ cap
      · refine (insert_shift hg hsz htk hfew hmx (by omega) hroom p ht (fun e => hne (by rw [e]; rfl))).mono ?_
        rintro e w' ⟨rfl, hr, t⟩
        exact ⟨_, rfl, hr, .inl rfl, t⟩
      · refine (insert_grow hg htk hfew (by omega) hle (by omega) p ht).mono ?_
        rintro e w' ⟨G, rfl, hr, t⟩
        exact ⟨_, rfl, hr, .inr rfl, t.mono (by simp)⟩

set_option maxHeartbeats 2000000 in
set_option maxRecDepth 100000 in
theorem delete_calls {w : World} {v : Value} {K : List (Int × Int)} (h : w.ownsRow 0 86 2 v K.length (kcells K)) (hfew : K.length ≤ 1000) {i : Nat} (hi : i < K.length) :
    Calls Tryz.prog 55 #[v, .int .i64 (i : Int), .int .i64 ((i + 1 : Nat) : Int)] w fun e w' =>
      ∃ v', e = .returned v' ∧ w'.ownsRow 0 86 2 v' (delK K i).length (kcells (delK K i)) ∧ v'.ownBlock = v.ownBlock ∧ Turn v.ownBlock.toList w w' := by
  rcases h.2 with ⟨rfl, h0⟩ | ⟨g, cap, cur, rfl, _, hg, hle, hmx, hsz, htk⟩
  · omega
  obtain ⟨n, hn⟩ : ∃ n, n = K.length := ⟨_, rfl⟩
  have hkl := kcells_length K
  have HN := Lib.hid hn
  obtain ⟨L, hL⟩ : ∃ L, L = kcells K := ⟨_, rfl⟩
  rw [delK_length hi]
  rw [← hL] at htk hkl
  rw [← hn] at hi hle hfew htk hkl ⊢
  obtain ⟨i0, hi0, hz0, hz1, hz2⟩ := info_parts Tryz.krow
  unfold maxLen at hmx
  clear hn h
  have hg0 : w.drew.heap[g]? = some (.cells cur 86 (0, 0)) := hg
  have hdl : (L.drop ((i + 1) * 2)).length = (n - (i + 1)) * 2 := by rw [List.length_drop, hkl]; omega
  obtain ⟨C1, hC1⟩ : ∃ C1, C1 = cur.toList.take (i * 2) ++ L.drop ((i + 1) * 2) ++ cur.toList.drop (i * 2 + (L.drop ((i + 1) * 2)).length) := ⟨_, rfl⟩
  obtain ⟨C2, hC2⟩ : ∃ C2, C2 = C1.take ((n - 1) * 2) ++ [.int .i64 0, .int .i64 0] ++ C1.drop ((n - 1) * 2 + [Value.int .i64 0, .int .i64 0].length) := ⟨_, rfl⟩
  obtain ⟨hl1, hl2, htk2⟩ := del_row htk hkl hi rfl (by rw [Array.length_toList]; omega) hC1 hC2
  have hap : ∀ a, (n - (i + 1) = 0 ∨ a = (⟨g, (i + 1) * 2, none⟩ : Addr)) → _ := fun a ha => run_append_rowN (P := Tryz.prog) w.drew 80 80 80 86 g i cap a (n - (i + 1)) (cap - (i + 1)) 2 cur _ (L.drop ((i + 1) * 2)) i0 Tryz.underlying80 Tryz.underlying80 hi0 hz1 hg0 hdl (by omega)
    (fun j v hj => by
      rcases ha with ha | rfl
      · rw [List.getElem?_eq_none (by omega)] at hj; cases hj
      rw [Addr.add_lit, cell_of_row _ _ _ _ _ _ hg0]
      rw [List.getElem?_drop, ← htk] at hj
      have h9 : (i + 1) * 2 + j < n * 2 := by
        rcases Nat.lt_or_ge ((i + 1) * 2 + j) (n * 2) with h | h
        · exact h
        · rw [List.getElem?_eq_none (by rw [List.length_take]; omega)] at hj; cases hj
      rw [List.getElem?_take_of_lt h9] at hj
      simpa using hj)
    (by rw [hdl, hsz]; omega) (fun v hv => kcells_one K v (by rw [← hL]; exact List.mem_of_mem_drop hv))
  rw [← hC1, show i + (n - (i + 1)) = n - 1 by omega] at hap
  obtain ⟨W1, hW1⟩ : ∃ W1, W1 = w.drew.setRow g C1.toArray := ⟨_, rfl⟩
  rw [← hW1] at hap
  have hg1 : W1.heap[g]? = some (.cells C1.toArray 86 (0, 0)) := by rw [hW1]; exact setRow_heap _ _ _ _ _ _ hg0
  have t1 : Turn [g] w W1 := Turn.rows (by simp) (Turn.drew _ w) ⟨_, hW1⟩
  have hcl := run_clear_rowN (P := Tryz.prog) W1 80 0 86 g ((n - 1) * 2) 1 (cap - (n - 1)) C1.toArray _ _ i0 Tryz.underlying80 hi0 hz0 (by omega) hg1 [.int .i64 0, .int .i64 0] (by kernel_rfl) (by simp [hl1, hsz]; omega) (by intro u hu; simp at hu; rw [hu]; rfl)
  rw [show C1.toArray.toList = C1 from rfl, ← hC2] at hcl
  obtain ⟨W2, hW2⟩ : ∃ W2, W2 = W1.setRow g C2.toArray := ⟨_, rfl⟩
  rw [← hW2] at hcl
  have HAP := Lib.hid hap
  have HCL := Lib.hid hcl
  have T2 := Lib.hid (Turn.rows (g := g) (by simp) t1 ⟨_, hW2⟩)
  have R2 : Hid (W2.ownsRow 0 86 2 (.slice (some ⟨g, 0, none⟩) (n - 1) cap) (n - 1) (kcells (delK K i))) := Lib.hid (by
    refine ⟨by rw [kcells_length, delK_length (by rw [← HN.out]; exact hi), HN.out], .inr ⟨g, cap, C2.toArray, rfl, Nat.zero_le _, by rw [hW2]; exact setRow_heap _ _ _ _ _ _ hg1, by omega, by unfold maxLen; omega, by simp [hl2, hsz], ?_⟩⟩
    rw [kcells_del, ← hL]
    exact htk2)
  clear hap hcl hg0 hg1 hC1 hC2 hl1 hl2 htk2 t1 hW1 hW2 hdl hg hsz htk hkl hL hi0 hz0 hz1 hz2
  obtain ⟨A, hA, hA2⟩ : ∃ A, (if cap = i + 1 then some (⟨g, 0, none⟩ : Addr) else some ⟨g, (i + 1) * 2, none⟩) = some A ∧ (n - (i + 1) = 0 ∨ A = (⟨g, (i + 1) * 2, none⟩ : Addr)) := by
    by_cases hc : cap = i + 1
    · exact ⟨_, if_pos hc, .inl (by omega)⟩
    · exact ⟨_, if_neg hc, .inr rfl⟩
  have hb1 : (0 : Int) ≤ ((i + 1 : Nat) : Int) := by omega
  have hb2 : ((i + 1 : Nat) : Int) ≤ (n : Int) := by omega
  have hb4 : i + 1 ≤ n := by omega
  have hb5 : (i : Int) + 1 ≤ (n : Int) := by omega
  have hb6 : ¬ cap < i := by omega
  have hb7 : ¬ (i : Int) + 1 < 0 := by omega
  go_enter Tryz.func55, Tryz.ntmps55
  go_wp2_with fail
  refine wp_region_any (by kernel_rfl) ?_
  refine any_take (i := 0) (d := some 20) (v := ?_) rfl (by rfl) (by kernel_rfl) (by kernel_rfl) (by kernel_rfl) (fun _ _ _ h => h) (by rfl) ?_ ?_
  rotate_left
  · intro wz
    go_simp
    try with_reducible rfl
  simp only [Act.put, List.setIfInBounds_toArray, List.set_cons_zero, List.set_cons_succ]
  refine any_take (i := 1) (d := some 21) (v := ?_) rfl (by rfl) (by kernel_rfl) (by kernel_rfl) (by kernel_rfl) (fun _ _ _ h => h) (by rfl) ?_ ?_
  rotate_left
  · intro wz
    go_simp
    try with_reducible rfl
  simp only [Act.put, List.setIfInBounds_toArray, List.set_cons_zero, List.set_cons_succ]
  refine any_take (i := 2) (d := some 22) (v := .slice (some ⟨g, 0, none⟩) i cap) rfl (by rfl) (by kernel_rfl) (by kernel_rfl) (by kernel_rfl) (fun _ _ _ h => h) (by rfl) ?_ ?_
  · intro wz
    go_simp
  simp only [Act.put, List.setIfInBounds_toArray, List.set_cons_zero, List.set_cons_succ]
  refine any_take (i := 3) (d := some 23) (v := ?_) rfl (by rfl) (by kernel_rfl) (by kernel_rfl) (by kernel_rfl) (fun _ _ _ h => h) (by rfl) ?_ ?_
  rotate_left
  · intro wz
    go_simp
    try with_reducible rfl
  simp only [Act.put, List.setIfInBounds_toArray, List.set_cons_zero, List.set_cons_succ]
  refine any_take (i := 4) (d := some 24) (v := ?_) rfl (by rfl) (by kernel_rfl) (by kernel_rfl) (by kernel_rfl) (fun _ _ _ h => h) (by rfl) ?_ ?_
  rotate_left
  · intro wz
    go_simp
    try with_reducible rfl
  simp only [Act.put, List.setIfInBounds_toArray, List.set_cons_zero, List.set_cons_succ]
  refine any_take (i := 5) (d := some 25) (v := .slice (some A) (n - (i + 1)) (cap - (i + 1))) rfl (by rfl) (by kernel_rfl) (by kernel_rfl) (by kernel_rfl) (fun _ _ _ h => h) (by rfl) ?_ ?_
  · intro wz
    go_simp
  simp only [Act.put, List.setIfInBounds_toArray, List.set_cons_zero, List.set_cons_succ]
  refine any_one (i := 6) (by kernel_rfl) (by rfl) (fun KK hKK => ?_)
  refine step_append (by rfl) (.tmp 22) (.tmp 25) 80 80 rfl _ _ rfl rfl (HAP.out A hA2) ?_
  refine hKK _ _ ?_
  show wpAny _ _ _ _ _ _ (Act.put _ (some 26) _) _
  simp only [Act.put, List.setIfInBounds_toArray, List.set_cons_zero, List.set_cons_succ]
  refine any_take (i := 7) (d := some 0) (v := ?_) rfl (by rfl) (by kernel_rfl) (by kernel_rfl) (by kernel_rfl) (fun _ _ _ h => h) (by rfl) ?_ ?_
  rotate_left
  · intro wz
    go_simp
    try with_reducible rfl
  simp only [Act.put, List.setIfInBounds_toArray, List.set_cons_zero]
  refine any_done (by kernel_rfl) ?_ _
  go_wp2_with fail
  rw [show n - (n - 1) = 1 by omega, HCL.out]
  go_wp2
  go_ret
  exact ⟨_, rfl, R2.out, rfl, T2.out⟩

end Go.Proofs.YtjmainefmiefcaaGreat.L


/-
  A bag of numbers: change, Add.
-/
namespace Go.Proofs.YtjmainefmiefcaaGreat
open Go.RowKit

/-- How many there are then. -/
def nowK (a n : Int) : Int := max (plusZ a n) 0

/-- What a change leaves. -/
def chgK (K : List (Int × Int)) (m : Nat) (n : Int) : List (Int × Int) := if nowK (K.getD m (0, 0)).2 n = 0 then delK K m else K.set m ((K.getD m (0, 0)).1, nowK (K.getD m (0, 0)).2 n)

theorem kcells_set : ∀ (K : List (Int × Int)) (m : Nat) (h : m < K.length) (y : Int), kcells (K.set m (K[m].1, y)) = (kcells K).set (m * 2 + 1) (.int .i64 y)
  | p :: K, 0, _, y => rfl
  | p :: K, m + 1, h, y => by
    have ih := kcells_set K m (by simpa using h) y
    have e : kcells (p :: K) = .int .i64 p.1 :: .int .i64 p.2 :: kcells K := rfl
    have e2 : ∀ q Z, kcells (q :: Z) = .int .i64 q.1 :: .int .i64 q.2 :: kcells Z := fun _ _ => rfl
    rw [List.set_cons_succ, e2, e, show (m + 1) * 2 + 1 = (m * 2 + 1) + 1 + 1 by omega, List.set_cons_succ, List.set_cons_succ, ← ih]
    rfl

theorem delK_mem {K : List (Int × Int)} {m : Nat} {p : Int × Int} (h : p ∈ delK K m) : p ∈ K := by
  rcases List.mem_append.1 h with h1 | h1
  · exact List.mem_of_mem_take h1
  · exact List.mem_of_mem_drop h1

theorem nowK_bounds {a n : Int} (hn : inI64 n) : 0 ≤ nowK a n ∧ nowK a n ≤ 9223372036854775807 := by
  unfold nowK plusZ
  obtain ⟨h1, h2⟩ := hn
  split <;> omega

theorem owns_slice {w : World} {B e s n : Nat} {v : Value} {xs : List Value} (h : w.ownsRow B e s v n xs) : ∃ ao c, v = .slice ao n c := by
  rcases h.2 with ⟨rfl, h0⟩ | ⟨g, cap, cur, rfl, _⟩
  · subst h0
    exact ⟨none, 0, rfl⟩
  · exact ⟨_, cap, rfl⟩

/-- The kinds' slice is another one now. -/
theorem BagI.put {w w2 : World} {b : Nat} {fv v v2 : Value} {K K2 : List (Int × Int)} (h : BagI w b fv v K) (t : Turn v.ownBlock.toList w w2) (hr : w2.ownsRow 0 191 2 v2 K2.length (kcells K2))
    (ho : v2.ownBlock = v.ownBlock ∨ ∀ k, v2.ownBlock = some k → w.heap.size ≤ k) (hn : ∀ p ∈ K2, inI64 p.1 ∧ 1 ≤ p.2 ∧ p.2 ≤ 9223372036854775807) (hf : K2.length ≤ 1000) :
    w2.heap[b]? = some (.cells #[fv, v] 122) ∧ BagI (w2.setCell ⟨b, 1, none⟩ v2) b fv v2 K2 ∧ Turn (b :: v.ownBlock.toList) w (w2.setCell ⟨b, 1, none⟩ v2) := by
  have hb : b ∉ v.ownBlock.toList := fun hm => h.apart (Option.mem_toList.1 hm)
  have hd := t.heap h.head hb
  have hbw := lt_of_heap h.head
  have hap : v2.ownBlock ≠ some b := by
    intro e
    rcases ho with h1 | h1
    · exact h.apart (by rw [← h1]; exact e)
    · have := h1 b e; omega
  have ts : Turn [b] w2 (w2.setCell ⟨b, 1, none⟩ v2) := Turn.setCell _ (by simp) _
  refine ⟨hd, ⟨by rw [block_set hd]; rfl, ownsRow_turn hr ts (fun k hk hm => hap (by rw [hk, List.mem_singleton.1 hm])), hap, hn, hf⟩, ?_⟩
  exact (t.mono (fun i hi => .inl (List.mem_cons_of_mem _ hi))).trans ts (fun i hi => .inl (by rw [List.mem_singleton.1 hi]; simp))

theorem cells_of_head {w : World} {b : Nat} {fv v : Value} {t : TypeId} (h : w.heap[b]? = some (.cells #[fv, v] t)) : w.cell? ⟨b, 0, none⟩ = some fv ∧ w.cell? ⟨b, 1, none⟩ = some v ∧ w.frozen? ⟨b, 1, none⟩ = false := by
  refine ⟨?_, ?_, unfrozen_of h⟩ <;> rw [cell_of_row _ _ _ _ _ _ h] <;> rfl

theorem found_no {m l : Nat} {z : Int} (hf : ¬ (m < l ∧ z = 0)) : (decide (m < l) && (z == 0)) = false := by
  rw [Bool.and_eq_false_iff]
  by_cases h1 : m < l
  · exact .inr (by simpa using fun h2 => hf ⟨h1, h2⟩)
  · exact .inl (by simpa using h1)

end Go.Proofs.YtjmainefmiefcaaGreat


/-
  A timer of int64s in memory; the place of one; how long it was silent.
-/
namespace Go.Proofs.YtjmainefmiefcaaGreat.L
open Go.RowKit

theorem isNaN_int (a : Int) (w : World) : Calls Tryz.prog 103 #[.int .i64 a] w fun e w' => e = .returned (.bool false) ∧ w' = w := by
  have h : (a != a) = false := by simp
  go_enter Tryz.func103, Tryz.ntmps103
  go_wp2
  go_ret
  exact ⟨by simp, rfl⟩

theorem compare_int (a b : Int) (w : World) : Calls Tryz.prog 78 #[.int .i64 a, .int .i64 b] w fun e w' => e = .returned (.int .i64 (cmpZ a b)) ∧ w' = w := by
  have A1 := Lib.hid (isNaN_int a w)
  have A2 := Lib.hid (isNaN_int b w)
  by_cases h1 : a < b
  · go_enter Tryz.func78, Tryz.ntmps78
    go_wp2_with (first | (go_at_call 103; first | (with_reducible refine A1.out.mono ?_; rintro e w' ⟨rfl, rfl⟩) | (with_reducible refine A2.out.mono ?_; rintro e w' ⟨rfl, rfl⟩)))
    go_ret
    exact ⟨ret_int (by unfold cmpZ; rw [if_pos h1]), rfl⟩
  · by_cases h2 : b < a
    · go_enter Tryz.func78, Tryz.ntmps78
      go_wp2_with (first | (go_at_call 103; first | (with_reducible refine A1.out.mono ?_; rintro e w' ⟨rfl, rfl⟩) | (with_reducible refine A2.out.mono ?_; rintro e w' ⟨rfl, rfl⟩)))
      go_ret
      exact ⟨ret_int (by unfold cmpZ; rw [if_neg (by omega), if_pos h2]), rfl⟩
    · go_enter Tryz.func78, Tryz.ntmps78
      go_wp2_with (first | (go_at_call 103; first | (with_reducible refine A1.out.mono ?_; rintro e w' ⟨rfl, rfl⟩) | (with_reducible refine A2.out.mono ?_; rintro e w' ⟨rfl, rfl⟩)))
      go_ret
      exact ⟨ret_int (by unfold cmpZ; rw [if_neg (by omega), if_neg (by omega)]), rfl⟩

/-- A timer: its most, its ticks, its ones. -/
structure TimI (w : World) (b : Nat) (most ticks : Int) (v : Value) (K : List (Int × Int)) : Prop where
  head : w.heap[b]? = some (.cells #[.int .i64 most, .int .i64 ticks, v] 82)
  row : w.ownsRow 0 86 2 v K.length (kcells K)
  apart : v.ownBlock ≠ some b
  mo : inI64 most
  ti : 0 ≤ ticks ∧ ticks ≤ 1000000
  nums : ∀ p ∈ K, 0 ≤ p.2 ∧ p.2 ≤ ticks
  few : K.length ≤ 1000

theorem TimI.turn {w w' : World} {b : Nat} {most ticks : Int} {v : Value} {K : List (Int × Int)} {l : List Nat} (h : TimI w b most ticks v K) (t : Turn l w w') (hb : b ∉ l) (hv : ∀ k, v.ownBlock = some k → k ∉ l) : TimI w' b most ticks v K :=
  ⟨t.heap h.head hb, ownsRow_turn h.row t hv, h.apart, h.mo, h.ti, h.nums, h.few⟩

theorem TimI.cells {w : World} {b : Nat} {most ticks : Int} {v : Value} {K : List (Int × Int)} (h : TimI w b most ticks v K) : w.cell? ⟨b, 0, none⟩ = some (.int .i64 most) ∧ w.cell? ⟨b, 1, none⟩ = some (.int .i64 ticks) ∧ w.cell? ⟨b, 2, none⟩ = some v := by
  refine ⟨?_, ?_, ?_⟩ <;> simp [World.cell?, h.head]

theorem ones_at {w : World} {t : TypeId} {v : Value} {K : List (Int × Int)} (h : w.ownsRow 0 t 2 v K.length (kcells K)) :
    ∃ ao cap, v = .slice ao K.length cap ∧ K.length ≤ cap ∧ cap ≤ maxLen ∧ ∀ i (hi : i < K.length), ∃ g, ao = some ⟨g, 0, none⟩ ∧ w.cell? ⟨g, i * 2, none⟩ = some (.int .i64 K[i].1) ∧ w.cell? ⟨g, i * 2 + 1, none⟩ = some (.int .i64 K[i].2) := by
  rcases h.2 with ⟨rfl, h0⟩ | ⟨g, cap, cur, rfl, _, hg, hle, hmx, hsz, htk⟩
  · exact ⟨none, 0, by rw [h0], by omega, by unfold maxLen; omega, fun i hi => by omega⟩
  · refine ⟨_, cap, rfl, hle, hmx, fun i hi => ⟨g, rfl, ?_, ?_⟩⟩
    · have h1 := (kcells_at K i hi).1
      rw [← htk, List.getElem?_take_of_lt (by omega)] at h1
      rw [Nat.mul_comm] at h1
      simp [World.cell?, hg]
      simpa using h1
    · have h1 := (kcells_at K i hi).2
      rw [← htk, List.getElem?_take_of_lt (by omega)] at h1
      rw [Nat.mul_comm] at h1
      simp [World.cell?, hg]
      simpa using h1

set_option maxRecDepth 100000 in
theorem find1_calls (k h x : Int) (w : World) : Calls Tryz.prog 77 #[.agg #[.int .i64 k, .int .i64 h], .int .i64 x] w fun e w' => e = .returned (.int .i64 (cmpZ k x)) ∧ Turn [] w w' := by
  have C := Lib.hid (compare_int k x)
  obtain ⟨c, hc⟩ : ∃ c, c = cmpZ k x := ⟨_, rfl⟩
  rw [← hc] at C ⊢
  clear hc
  go_enter Tryz.func77, Tryz.ntmps77
  go_wp2_with fail
  refine (C.out _).mono ?_
  rintro e w1 ⟨rfl, rfl⟩
  go_wp2
  go_ret
  exact ⟨rfl, Turn.alloc [] w _⟩

theorem find1_enter (args : Array Value) (w : World) : (callFunc 77 args).run Tryz.prog w = .ok (.enter 77 args) w :=
  enter_run Tryz.func77 (by kernel_rfl) (by kernel_rfl) args w

set_option maxHeartbeats 2000000 in
set_option maxRecDepth 100000 in
/-- slices.BinarySearchFunc of the ones: the place m of x, or where it would stand. -/
theorem bs_calls {w : World} {v : Value} {K : List (Int × Int)} (h : w.ownsRow 0 86 2 v K.length (kcells K)) (hfew : K.length ≤ 1000) (x : Int) {m : Nat} (hm : m ≤ K.length)
    (hlo : ∀ i (hi : i < K.length), i < m → cmpZ K[i].1 x < 0) (hhi : ∀ i (hi : i < K.length), m ≤ i → 0 ≤ cmpZ K[i].1 x) :
    Calls Tryz.prog 76 #[v, .int .i64 x, .func (.func 77) #[] #[]] w fun e w' =>
      e = .returned (.tuple #[.int .i64 (m : Int), .bool (decide (m < K.length) && (cmpZ (K.getD m (0, 0)).1 x == 0))]) ∧ Turn [] w w' := by
  obtain ⟨n, hn⟩ : ∃ n, n = K.length := ⟨_, rfl⟩
  have HROW := Lib.hid h
  have HN := Lib.hid hn
  obtain ⟨ao, cp, rfl, hle, hmx, -⟩ := ones_at h
  have EN := find1_enter
  have LO := Lib.hid hlo
  have HI := Lib.hid hhi
  obtain ⟨r, hr⟩ : ∃ r, r = (decide (m < K.length) && (cmpZ (K.getD m (0, 0)).1 x == 0)) := ⟨_, rfl⟩
  have HR := Lib.hid hr
  rw [← hr]
  rw [← hn] at hm hle hfew ⊢
  clear h hn hlo hhi hr
  go_enter Tryz.func76, Tryz.ntmps76
  go_wp2_with fail
  go_loopw [9, 10] (fun vi vj wx => ∃ i j : Nat, i ≤ m ∧ m ≤ j ∧ j ≤ n ∧ vi = .int .i64 (i : Int) ∧ vj = .int .i64 (j : Int) ∧ Turn [] w wx) (fun vi vj _ => (intOf vj).toNat - (intOf vi).toNat)
  case atStart => exact ⟨0, n, by omega, hm, Nat.le_refl _, rfl, rfl, Turn.refl _ _⟩
  case round =>
    obtain ⟨i, j, hi, hj, hjn, rfl, rfl, ht⟩ := hrel
    have HT := Lib.hid ht
    have hrow := ownsRow_turn HROW.out ht (fun _ _ => by simp)
    obtain ⟨ao', cp', he, -, -, hat⟩ := ones_at hrow
    rw [← HN.out] at he
    simp only [Value.slice.injEq, true_and] at he
    obtain ⟨rfl, rfl⟩ := he
    clear ht hrow
    by_cases hij : i < j
    · obtain ⟨h, hh⟩ : ∃ h, h = (i + j) / 2 := ⟨_, rfl⟩
      have hih : i ≤ h ∧ h < j := by omega
      have hh' : ((i : Int) + (j : Int)) / 2 = (h : Int) := by omega
      clear hh
      have hhk : h < K.length := by rw [← HN.out]; omega
      obtain ⟨g, rfl, hk0, hk1⟩ := hat h hhk
      obtain ⟨y, hy⟩ : ∃ y, y = K[h].1 := ⟨_, rfl⟩
      obtain ⟨y2, hy2⟩ : ∃ y, y = K[h].2 := ⟨_, rfl⟩
      rw [← hy] at hk0
      rw [← hy2] at hk1
      have hb : 0 ≤ (h : Int) ∧ (h : Int) < (n : Int) := by omega
      have C := Lib.hid (find1_calls y y2 x)
      by_cases hg : cmpZ y x < 0
      · have hhm : h < m := by
          false_or_by_contra
          have := HI.out h hhk (by omega)
          rw [← hy] at this
          omega
        obtain ⟨c, hc⟩ : ∃ c, c = cmpZ y x := ⟨_, rfl⟩
        rw [← hc] at C hg
        clear hat hy hy2 hc
        go_wp2_with fail
        refine (C.out _).mono ?_
        rintro e x1 ⟨rfl, t1⟩
        have T1 := Lib.hid (HT.out.trans t1 (by simp))
        clear t1 C
        go_wp2
        go_roundw
        case rel => exact ⟨h + 1, j, by omega, hj, hjn, by go_num, rfl, T1.out⟩
        case measure => simp [intOf]; omega
      · have hhm : m ≤ h := by
          false_or_by_contra
          have := LO.out h hhk (by omega)
          rw [← hy] at this
          omega
        obtain ⟨c, hc⟩ : ∃ c, c = cmpZ y x := ⟨_, rfl⟩
        rw [← hc] at C hg
        clear hat hy hy2 hc
        go_wp2_with fail
        refine (C.out _).mono ?_
        rintro e x1 ⟨rfl, t1⟩
        have T1 := Lib.hid (HT.out.trans t1 (by simp))
        clear t1 C
        go_wp2
        go_roundw
        case rel => exact ⟨i, h, hi, hhm, by omega, rfl, rfl, T1.out⟩
        case measure => simp [intOf]; omega
    · have him : i = m := by omega
      subst him
      by_cases hin : i < n
      · have hik : i < K.length := by rw [← HN.out]; exact hin
        obtain ⟨g, rfl, hk0, hk1⟩ := hat i hik
        obtain ⟨y, hy⟩ : ∃ y, y = K[i].1 := ⟨_, rfl⟩
        obtain ⟨y2, hy2⟩ : ∃ y, y = K[i].2 := ⟨_, rfl⟩
        rw [← hy] at hk0
        rw [← hy2] at hk1
        have hb : 0 ≤ (i : Int) ∧ (i : Int) < (n : Int) := by omega
        have hin1 : decide ((i : Int) < (n : Int)) = true := by simp; omega
        have C := Lib.hid (find1_calls y y2 x)
        have HR2 : Hid (r = (cmpZ y x == 0)) := Lib.hid (by rw [HR.out, hy]; simp [List.getD, hik])
        obtain ⟨c, hc⟩ : ∃ c, c = cmpZ y x := ⟨_, rfl⟩
        rw [← hc] at C HR2
        clear hat hy hy2 hc
        go_wp2_with fail
        refine (C.out _).mono ?_
        rintro e x1 ⟨rfl, t1⟩
        have T1 := Lib.hid (HT.out.trans t1 (by simp))
        clear t1 C
        go_wp2
        go_ret2
        exact ⟨by rw [HR2.out]; rfl, T1.out⟩
      · have hin1 : decide ((i : Int) < (n : Int)) = false := by simp; omega
        have HR2 : Hid (r = false) := Lib.hid (by rw [HR.out, ← HN.out]; simp [hin])
        clear hat
        go_wp2
        go_ret2
        exact ⟨by rw [HR2.out]; rfl, HT.out⟩

set_option maxRecDepth 100000 in
/-- find. -/
theorem find_calls {w : World} {b : Nat} {most ticks : Int} {v : Value} {K : List (Int × Int)} (h : TimI w b most ticks v K) (x : Int) {m : Nat} (hm : m ≤ K.length)
    (hlo : ∀ i (hi : i < K.length), i < m → cmpZ K[i].1 x < 0) (hhi : ∀ i (hi : i < K.length), m ≤ i → 0 ≤ cmpZ K[i].1 x) :
    Calls Tryz.prog 53 #[.pointer (some ⟨b, 0, none⟩), .int .i64 x] w fun e w' =>
      e = .returned (.tuple #[.int .i64 (m : Int), .bool (decide (m < K.length) && (cmpZ (K.getD m (0, 0)).1 x == 0))]) ∧ Turn [] w w' := by
  have BC := Lib.hid (bs_calls h.row h.few x hm hlo hhi)
  obtain ⟨c0, c1, c2⟩ := h.cells
  obtain ⟨r, hr⟩ : ∃ r, r = (decide (m < K.length) && (cmpZ (K.getD m (0, 0)).1 x == 0)) := ⟨_, rfl⟩
  rw [← hr] at BC ⊢
  clear h hlo hhi hr
  go_enter Tryz.func53, Tryz.ntmps53
  go_wp2_with fail
  refine BC.out.mono ?_
  rintro e w1 ⟨rfl, t1⟩
  have T1 := Lib.hid t1
  clear t1 BC
  go_wp2
  go_ret2
  exact ⟨rfl, T1.out⟩

theorem find_nil (x : Int) (w : World) : Calls Tryz.prog 53 #[.pointer none, .int .i64 x] w fun e w' => e = .returned (.tuple #[.int .i64 0, .bool false]) ∧ w' = w := by
  go_enter Tryz.func53, Tryz.ntmps53
  go_wp2
  go_ret2
  exact ⟨rfl, rfl⟩

set_option maxHeartbeats 1000000 in
set_option maxRecDepth 100000 in
/-- age: of who stands at that place. -/
theorem age_calls {w : World} {b : Nat} {most ticks : Int} {v : Value} {K : List (Int × Int)} (h : TimI w b most ticks v K) {i : Nat} (hi : i < K.length) :
    Calls Tryz.prog 56 #[.pointer (some ⟨b, 0, none⟩), .int .i64 (i : Int)] w fun e w' => e = .returned (.int .i64 (ticks - (K.getD i (0, 0)).2)) ∧ ∃ d, w' = w.drewN d := by
  have hgd : K.getD i (0, 0) = K[i] := by simp [List.getD, hi]
  rw [hgd]
  obtain ⟨c0, c1, c2⟩ := h.cells
  obtain ⟨ao, cp, rfl, hle, hmx, hat⟩ := ones_at h.row
  obtain ⟨g, rfl, -, hk1⟩ := hat i hi
  obtain ⟨y, hy⟩ : ∃ y, y = K[i].2 := ⟨_, rfl⟩
  have hyb := h.nums K[i] (List.getElem_mem hi)
  have hti := h.ti
  rw [← hy] at hk1 hyb ⊢
  obtain ⟨n, hn⟩ : ∃ n, n = K.length := ⟨_, rfl⟩
  rw [← hn] at c2 hi
  have hb : 0 ≤ (i : Int) ∧ (i : Int) < (n : Int) := by omega
  have hwr : IntKind.i64.wrap (ticks - y) = ticks - y := by rw [IntKind.wrap_i64]; omega
  clear h hat hn hy hle hgd
  go_enter Tryz.func56, Tryz.ntmps56
  go_wp2_with fail
  go_quiet (fail)
  go_wp2
  go_ret
  exact ⟨rfl, nq, rfl⟩

end Go.Proofs.YtjmainefmiefcaaGreat.L
