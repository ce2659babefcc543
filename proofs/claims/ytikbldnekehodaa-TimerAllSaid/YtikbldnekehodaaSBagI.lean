/-
  A bag of texts in memory; the closure that find hands to sort.Find; find.
-/
import Derived.Test.YtikbldnekehodaaFind
import Derived.Recover
import Derived.Defers
import Derived.Deep.RegionHeld3
namespace Go.Proofs.Ytikbldnekehodaa.S
open Go.RowKit

theorem cell_new (w : World) (x : Value) (t : TypeId) : (w.alloc (.cells #[x] t)).cell? ⟨w.heap.size, 0, none⟩ = some x := by
  have h : (w.alloc (.cells #[x] t)).heap[w.heap.size]? = some (.cells #[x] t) := by
    show (w.heap.push (.cells #[x] t))[w.heap.size]? = _
    exact Array.getElem?_push_size
  unfold World.cell?
  rw [h]
  rfl

theorem enter_run {P : Program} {f : FuncId} {fn : Func} (hf : P.funcs[f]? = some fn) (hname : (fn.name == "runtime.NumGoroutine") = false) (hb : fn.body.isNone = false) (args : Array Value) (w : World) :
    (callFunc f args).run P w = .ok (.enter f args) w := by
  have h1 : (fn.name = "runtime.NumGoroutine") = False := by simpa using hname
  cases h2 : fn.body with
  | none => rw [h2] at hb; cases hb
  | some c => simp [callFunc, hf, h1, h2]

/-- A call through a function value, within a region. -/
theorem step_callv {P : Program} {ops : Array Oper} {o : Oper} {a : Act} {w : World} {K : Act → World → Prop} {Q : Exit → Act → World → Prop} {E : Prop} (hw : Region.wanted o (yielded ops a.tmps) = true)
    {x : Operand} {args : Array Operand} {ts : Array TypeId} (kf : FuncId) (cap vs : Array Value) (ho : o.op = .call { callee := .value x, args := args, argTypes := ts }) (hx : a.eval x = .func (.func kf) #[] cap) (hv : args.map a.eval = vs)
    (enter : (callFunc kf (vs ++ cap)).run P w = .ok (.enter kf (vs ++ cap)) w)
    (h : Calls P kf (vs ++ cap) w (fun e w' => ∃ v, e = .returned v ∧ K (a.put o.dst v) w')) : if Region.wanted o (yielded ops a.tmps) = true then Oper.wp P o a w K Q else E := by
  rw [if_pos hw]
  unfold Oper.wp execOp
  simp only [ho, resolve, hx, Deferred.ofValue, invoke, Sem.run_bind, Sem.run_pure, Result.andThen_ok, hv]
  have : #[] ++ vs ++ cap = vs ++ cap := by simp
  simp only [this, enter, Oper.upon_enter]
  refine h.mono ?_
  rintro e w' ⟨v, rfl, hk⟩
  exact hk

def kcells (K : List (ByteArray × Int)) : List Value := K.flatMap fun p => [.string p.1, .int .i64 p.2]

theorem kcells_length (K : List (ByteArray × Int)) : (kcells K).length = K.length * 2 := by
  induction K with
  | nil => rfl
  | cons p K ih => simp only [kcells, List.flatMap_cons, List.length_append, List.length_cons, List.length_nil] at ih ⊢; omega

theorem kcells_at : ∀ (K : List (ByteArray × Int)) (i : Nat) (h : i < K.length), (kcells K)[2 * i]? = some (.string K[i].1) ∧ (kcells K)[2 * i + 1]? = some (.int .i64 K[i].2)
  | p :: K, 0, _ => ⟨rfl, rfl⟩
  | p :: K, i + 1, h => by
    have ih := kcells_at K i (by simpa using h)
    have e : kcells (p :: K) = .string p.1 :: .int .i64 p.2 :: kcells K := rfl
    rw [e, show 2 * (i + 1) = 2 * i + 1 + 1 by omega, show 2 * i + 1 + 1 + 1 = (2 * i + 1) + 1 + 1 by omega]
    simpa using ih

def okS (_x : ByteArray) : Prop := True

def inI64 (x : Int) : Prop := -9223372036854775808 ≤ x ∧ x ≤ 9223372036854775807

/-- A bag of texts: its compare, its kinds. -/
structure BagI (w : World) (b : Nat) (fv v : Value) (K : List (ByteArray × Int)) : Prop where
  head : w.heap[b]? = some (.cells #[fv, v] 89)
  row : w.ownsRow 0 93 2 v K.length (kcells K)
  apart : v.ownBlock ≠ some b
  nums : ∀ p ∈ K, okS p.1 ∧ 1 ≤ p.2 ∧ p.2 ≤ 9223372036854775807
  few : K.length ≤ 1000

theorem BagI.turn {w w' : World} {b : Nat} {fv v : Value} {K : List (ByteArray × Int)} {l : List Nat} (h : BagI w b fv v K) (t : Turn l w w') (hb : b ∉ l) (hv : ∀ k, v.ownBlock = some k → k ∉ l) : BagI w' b fv v K :=
  ⟨t.heap h.head hb, ownsRow_turn h.row t hv, h.apart, h.nums, h.few⟩

theorem BagI.cells {w : World} {b : Nat} {fv v : Value} {K : List (ByteArray × Int)} (h : BagI w b fv v K) : w.cell? ⟨b, 0, none⟩ = some fv ∧ w.cell? ⟨b, 1, none⟩ = some v := by
  constructor <;> simp [World.cell?, h.head]

/-- The kinds' slice; where one of them stands. -/
theorem BagI.kinds {w : World} {b : Nat} {fv v : Value} {K : List (ByteArray × Int)} (h : BagI w b fv v K) :
    ∃ ao cap, v = .slice ao K.length cap ∧ K.length ≤ cap ∧ cap ≤ maxLen ∧ ∀ i (hi : i < K.length), ∃ g, ao = some ⟨g, 0, none⟩ ∧ w.cell? ⟨g, i * 2, none⟩ = some (.string K[i].1) ∧ w.cell? ⟨g, i * 2 + 1, none⟩ = some (.int .i64 K[i].2) := by
  rcases h.row.2 with ⟨rfl, h0⟩ | ⟨g, cap, cur, rfl, _, hg, hle, hmx, hsz, htk⟩
  · exact ⟨none, 0, by rw [h0], by omega, by unfold maxLen; omega, fun i hi => by omega⟩
  · refine ⟨_, cap, rfl, hle, hmx, fun i hi => ⟨g, rfl, ?_, ?_⟩⟩
    · have h1 := (kcells_at K i hi).1
      rw [← htk, List.getElem?_take_of_lt (by omega)] at h1
      rw [Nat.mul_comm] at h1
      simp [World.cell?, hg]
      simpa using h1
    · have h1 := (kcells_at K i hi).2
      rw [← htk, List.getElem?_take_of_lt (by omega)] at h1
      rw [Nat.mul_comm] at h1
      simp [World.cell?, hg]
      simpa using h1

/-- A function value that compares two numbers. -/
structure CmpOk (kc : FuncId) (cap : Array Value) (c : ByteArray → ByteArray → Int) (ok : World → Prop) : Prop where
  enter : ∀ args w, (callFunc kc args).run Try.prog w = .ok (.enter kc args) w
  calls : ∀ x y w, okS x → okS y → ok w → Calls Try.prog kc (#[.string x, .string y] ++ cap) w fun e w' => e = .returned (.int .i64 (c x y)) ∧ w' = w
  turn : ∀ w w', ok w → Turn [] w w' → ok w'
  small : ∀ x y, inI64 (c x y)

set_option maxHeartbeats 1000000 in
set_option maxRecDepth 100000 in
theorem find2_calls {w : World} {b pb px kc : Nat} {cap : Array Value} {v : Value} {K : List (ByteArray × Int)} {c : ByteArray → ByteArray → Int} {ok : World → Prop} (h : BagI w b (.func (.func kc) #[] cap) v K) (hc : CmpOk kc cap c ok) (hok : ok w) {x : ByteArray} (hx : okS x)
    (hpb : w.cell? ⟨pb, 0, none⟩ = some (.pointer (some ⟨b, 0, none⟩))) (hpx : w.cell? ⟨px, 0, none⟩ = some (.string x)) {i : Nat} (hi : i < K.length) :
    Calls Try.prog 83 #[.int .i64 (i : Int), .pointer (some ⟨pb, 0, none⟩), .pointer (some ⟨px, 0, none⟩)] w fun e w' => e = .returned (.int .i64 (c x K[i].1)) ∧ Turn [] w w' := by
  obtain ⟨ao, cp, rfl, hle, hmx, hat⟩ := h.kinds
  obtain ⟨g, rfl, hk0, -⟩ := hat i hi
  obtain ⟨c0, c1⟩ := h.cells
  obtain ⟨n, hn⟩ : ∃ n, n = K.length := ⟨_, rfl⟩
  have hfew := h.few
  have hy := (h.nums K[i] (List.getElem_mem hi)).1
  obtain ⟨y, hyy⟩ : ∃ y, y = K[i].1 := ⟨_, rfl⟩
  rw [← hyy] at hk0 hy ⊢
  rw [← hn] at c1 hi hle
  have hb : 0 ≤ (i : Int) ∧ (i : Int) < (n : Int) := by omega
  have CC := Lib.hid (hc.calls x y w.drew hx hy (hc.turn _ _ hok (Turn.drew [] w)))
  have EN := hc.enter
  clear hat h hn hfew hyy
  go_enter Try.func83, Try.ntmps83
  go_wp2_with fail
  go_region_held3 (fun w' => w'.cell? ⟨pb, 0, none⟩ = some (.pointer (some ⟨b, 0, none⟩)) ∧ w'.cell? ⟨px, 0, none⟩ = some (.string x) ∧ w'.cell? ⟨b, 0, none⟩ = some (.func (.func kc) #[] cap) ∧ w'.cell? ⟨b, 1, none⟩ = some (.slice (some ⟨g, 0, none⟩) n cp) ∧ w'.cell? ⟨g, i * 2, none⟩ = some (.string y))
    (go_keep)
    (first
      | (refine CC.out.mono ?_; rintro e w' ⟨rfl, rfl⟩))
  go_wp2
  go_ret
  exact ⟨rfl, Turn.drew [] w⟩

theorem eq_nilFunc (w : World) (fn : Fn) (first cap : Array Value) : (binOp .eql 51 (.func fn first cap) .nilFunc).run Try.prog w = .ok (.bool false) w := by kernel_rfl

theorem find1_idle (w : World) : CallsD Try.prog 82 #[] .returning w fun e u' w' => e = .returned (.tuple #[]) ∧ u' = .returning ∧ w' = w := by
  refine callsD_of_wpS Try.func82 rfl fun c₀ cs hu => ?_
  apply wpS_region
  cases c₀
  simp_all [wpOpsS, go_sem, recoverD, bodyPostS, results, Try.results82]

set_option maxHeartbeats 1000000 in
set_option maxRecDepth 100000 in
/-- find: the place m of x among the kinds, or where it would stand. -/
theorem find_calls {w : World} {b kc : Nat} {cap : Array Value} {v : Value} {K : List (ByteArray × Int)} {c : ByteArray → ByteArray → Int} {ok : World → Prop} (h : BagI w b (.func (.func kc) #[] cap) v K) (hc : CmpOk kc cap c ok) (hok : ok w) {x : ByteArray} (hx : okS x) {m : Nat} (hm : m ≤ K.length)
    (hlo : ∀ i (hi : i < K.length), i < m → 0 < c x K[i].1) (hhi : ∀ i (hi : i < K.length), m ≤ i → c x K[i].1 ≤ 0) :
    Calls Try.prog 60 #[.pointer (some ⟨b, 0, none⟩), .string x] w fun e w' => e = .returned (.tuple #[.int .i64 (m : Int), .bool (decide (m < K.length) && (c x (K.getD m (⟨#[]⟩, 0)).1 == 0)), .bool true]) ∧ Turn [] w w' := by
  have hmf : ∀ (fn : Fn) (first cap : Array Value) (w : World), (Instr.makeFunc fn first cap).run Try.prog w = .ok (.func fn first cap) w := fun _ _ _ _ => rfl
  obtain ⟨w2, hw2⟩ : ∃ w2, w2 = (w.alloc (.cells #[.pointer (some ⟨b, 0, none⟩)] 49)).alloc (.cells #[.string x] 9) := ⟨_, rfl⟩
  have t2 : Turn [] w w2 := by rw [hw2]; exact (Turn.alloc [] w _).trans (Turn.alloc [] _ _) (by simp)
  have h2 := h.turn t2 (by simp) (fun _ _ => by simp)
  have hpb : w2.cell? ⟨w.heap.size, 0, none⟩ = some (.pointer (some ⟨b, 0, none⟩)) := by
    rw [hw2]
    exact (Turn.alloc [] _ _).cell (cell_new w _ _) (by simp)
  have hpx : w2.cell? ⟨w.heap.size + 1, 0, none⟩ = some (.string x) := by
    rw [hw2, show w.heap.size + 1 = (w.alloc (.cells #[.pointer (some ⟨b, 0, none⟩)] 49)).heap.size by simp]
    exact cell_new _ _ _
  obtain ⟨ao, cp, rfl, hle, hmx, -⟩ := h.kinds
  obtain ⟨c0, c1⟩ := h2.cells
  obtain ⟨n, hn⟩ : ∃ n, n = K.length := ⟨_, rfl⟩
  have hfew := h.few
  have FC := Lib.hid (sortFind_calls 83 #[.pointer (some ⟨w.heap.size, 0, none⟩), .pointer (some ⟨w.heap.size + 1, 0, none⟩)] n m (fun i => c x (K.getD i (⟨#[]⟩, 0)).1) w2 (by omega) (by omega)
    (fun args wx => by
      exact enter_run Try.func83 (by kernel_rfl) (by kernel_rfl) args wx)
    (fun i wx hi tx => by
      have hi' : i < K.length := by omega
      have e : (K.getD i (⟨#[]⟩, 0)).1 = K[i].1 := by simp [List.getD, hi']
      rw [e]
      refine (find2_calls (h2.turn tx (by simp) (fun _ _ => by simp)) hc (hc.turn _ _ (hc.turn _ _ hok t2) tx) hx (tx.cell hpb (by simp)) (tx.cell hpx (by simp)) hi').mono ?_
      rintro e w' ⟨rfl, t⟩
      exact ⟨rfl, tx.trans t (by simp)⟩)
    (fun i hi => by
      have hi' : i < K.length := by omega
      have e : (K.getD i (⟨#[]⟩, 0)).1 = K[i].1 := by simp [List.getD, hi']
      show 0 < c x (K.getD i (⟨#[]⟩, 0)).1
      rw [e]
      exact hlo i hi' hi)
    (fun i hi hin => by
      have hi' : i < K.length := by omega
      have e : (K.getD i (⟨#[]⟩, 0)).1 = K[i].1 := by simp [List.getD, hi']
      show c x (K.getD i (⟨#[]⟩, 0)).1 ≤ 0
      rw [e]
      exact hhi i hi' hi))
  rw [← hn] at c1 ⊢
  subst hw2
  clear h h2 hlo hhi hm hn hc hok hx
  go_enter_defers Try.func60, Try.ntmps60
  go_wp2_with fail
  rw [eq_nilFunc]
  go_wp2_with fail
  refine FC.out.mono ?_
  rintro e w3 ⟨rfl, t3⟩
  obtain ⟨r, hr⟩ : ∃ r, r = (decide (m < n) && (c x (K.getD m (⟨#[]⟩, 0)).1 == 0)) := ⟨_, rfl⟩
  rw [← hr]
  have T3 := Lib.hid (Turn.trans t2 t3 (by simp))
  have HR := Lib.hid hr
  clear FC t3 t2 hpb hpx c0 c1 hr
  go_wp2_with fail
  refine leaves_cons (f := 82) (args := #[]) (by simp) (by simp [go_sem]) ?_
  refine (find1_idle _).mono ?_
  rintro e u' w'' ⟨rfl, rfl, rfl⟩
  rw [← HR.out]
  exact ⟨_, results_tmp3 rfl _ _ _, rfl, T3.out⟩

end Go.Proofs.Ytikbldnekehodaa.S
