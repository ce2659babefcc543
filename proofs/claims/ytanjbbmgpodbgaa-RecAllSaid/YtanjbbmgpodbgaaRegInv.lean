/-
  A region that draws its order, by a condition that holds between its steps, whichever have been taken: each step is shown once, not once an order.
-/
import Derived.Test.YtanjbbmgpodbgaaTurn
import Derived.OrdersHeld
import Derived.StillTail
import Derived.Deep.RegionHeld3
import Derived.Great.Frames
namespace Go.Proofs.Ytanjbbmgpodbgaa
open Go

section
variable {P : Program} {md : Region.Mode} {ops : Array Oper} {Q : Exit → Act → World → Prop}

theorem count_set_true {L : Array Bool} {j : Nat} (hj : L.getD j true = false) : (L.setIfInBounds j true).toList.count false + 1 = L.toList.count false := by
  have hlt : j < L.size := by
    rcases Nat.lt_or_ge j L.size with h | h
    · exact h
    · simp [Array.getElem?_eq_none h] at hj
  have hj2 : L.toList[j]'(by simpa using hlt) = false := by simpa [hlt] using hj
  rw [Array.toList_setIfInBounds, List.count_set (by simpa using hlt), hj2]
  have hp : 0 < L.toList.count false := List.count_pos_iff.2 (by rw [← hj2]; exact List.getElem_mem _)
  have e1 : (if (false == false) = true then 1 else 0) = 1 := rfl
  have e2 : (if (true == false) = true then 1 else 0) = 0 := rfl
  rw [e1, e2]
  omega

theorem none_ready {L : Array Bool} (h : L.toList.count false = 0) : Region.ready md ops L = [] := by
  refine List.eq_nil_iff_forall_not_mem.2 (fun j hj => ?_)
  have h0 := (mem_ready.1 hj).1
  have := count_set_true h0
  omega

/-- The rule: what holds between the steps. -/
theorem inv_any {Inv : Array Bool → Act → World → Prop}
    (hstep : ∀ L a w j o, Inv L a w → L.getD j true = false → ops[j]? = some o → (∀ e ∈ o.after, Region.binds md e = true → L.getD e.on false = true) →
      ∀ K : Act → World → Prop, (∀ b x, Inv (L.setIfInBounds j true) b x → K b x) → if Region.wanted o (yielded ops a.tmps) = true then Oper.wp P o a w K Q else K (a.put o.dst undef) w)
    (hend : ∀ L a w, Inv L a w → Region.ready md ops L = [] → Q .normal a w) :
    ∀ (k : Nat) (L : Array Bool) (a : Act) (w : World), L.toList.count false ≤ k → Inv L a w → wpAny P md ops Q k L a w
  | 0, L, a, w, hc, h => ⟨none_ready (by omega), hend L a w h (none_ready (by omega))⟩
  | k + 1, L, a, w, hc, h => ⟨fun hr => hend L a w h hr, fun j hj => by
      obtain ⟨h0, o, ho, hd⟩ := mem_ready.1 hj
      refine wpOp_step ho (fun K' hK' => hstep L a w j o h h0 ho hd K' (fun b x hb => hK' b x (inv_any hstep hend k _ b x ?_ hb)))
      have := count_set_true h0
      omega⟩

/-- What yields its value in whatever world is taken first. -/
theorem any_take {i k : Nat} {oi : Oper} {d : Option Tmp} {v : Value} {L : Array Bool} {a : Act} {w : World} (hi : ops[i]? = some oi) (hd : oi.dst = d) (hs : Region.noSelect ops = true) (hf : Region.free md ops L i = true)
    (hr : (Region.ready md ops L).contains i = true) (hQ : ∀ c a w, Q (.panic c) (a.put d v) w → Q (.panic c) a w) (hwt : Region.wanted oi (yielded ops a.tmps) = true)
    (hy : ∀ x, (execOp a.eval oi).run P x = .ok (.value v) x)
    (h : wpAny P md ops Q k (L.setIfInBounds i true) (a.put d v) w) : wpAny P md ops Q (k + 1) L a w := by
  subst hd
  exact wpAny_take hi hs hf hr hQ (.inl ⟨hwt, hy⟩) h

/-- Each waits for earlier ones alone. -/
def forthB (md : Region.Mode) (ops : Array Oper) : Bool := (List.range ops.size).all fun j => match ops[j]? with | some o => o.after.all (fun e => !Region.binds md e || decide (e.on < j)) | none => true

theorem all_listed {L : Array Bool} (hf : forthB md ops = true) (hs : L.size = ops.size) (hr : Region.ready md ops L = []) : ∀ j, j < ops.size → L.getD j false = true := by
  intro j
  induction j using Nat.strongRecOn with
  | ind j ih =>
    intro hj
    by_cases h : L.getD j true = false
    · have : j ∈ Region.ready md ops L := mem_ready.2 ⟨h, ops[j], by simp [hj], fun e he hb => by
        have h1 := List.all_eq_true.1 hf j (List.mem_range.2 hj)
        simp only [hj, Array.getElem?_eq_getElem, Array.all_eq_true_iff_forall_mem] at h1
        have h2 := h1 e he
        simp [hb] at h2
        exact ih _ h2 (by omega)⟩
      rw [hr] at this
      cases this
    · have hlt : j < L.size := by omega
      simp [hlt] at h ⊢
      exact h

theorem listed_set {L : Array Bool} {i j : Nat} (h : L.getD i false = true) : (L.setIfInBounds j true).getD i false = true := by
  by_cases e : j = i
  · subst e
    have hlt : j < L.size := by
      rcases Nat.lt_or_ge j L.size with h1 | h1
      · exact h1
      · simp [Array.getElem?_eq_none h1] at h
    simp [hlt]
  · rw [getD_set_ne _ e]; exact h

theorem listed_of_set {L : Array Bool} {i j : Nat} (hne : j ≠ i) (h : (L.setIfInBounds j true).getD i false = true) : L.getD i false = true := by rwa [getD_set_ne _ hne] at h

theorem waits_listed {L : Array Bool} {j i : Nat} {o : Oper} (hw : Region.waitsFor md ops j i = true) (ho : ops[j]? = some o) (hd : ∀ e ∈ o.after, Region.binds md e = true → L.getD e.on false = true) : L.getD i false = true := by
  obtain ⟨oj, hoj, e, he, hb, hei⟩ := Region.waitsFor_spec hw
  rw [ho] at hoj
  cases hoj
  rw [← hei]
  exact hd e he hb

theorem not_listed {L : Array Bool} {j : Nat} (h : L.getD j true = false) : L.getD j false ≠ true := by
  have hlt : j < L.size := by
    rcases Nat.lt_or_ge j L.size with h1 | h1
    · exact h1
    · simp [Array.getElem?_eq_none h1] at h
  simp [hlt] at h ⊢
  exact h

/-- A guard that has yielded. -/
theorem wanted_of {o : Oper} {a : Act} {g d : Nat} {b : Bool} (ho : o.guard = some (g, b)) (hg : (ops[g]?).bind (·.dst) = some d) (hd : d < a.tmps.size) (hv : a.eval (.tmp d) = .bool b) : Region.wanted o (yielded ops a.tmps) = true := by
  have h2 : a.tmps[d]? = some (.bool b) := by
    simp [Act.eval, Array.getD, hd] at hv
    simp [hd, hv]
  unfold Region.wanted yielded
  rw [ho]
  simp only [hg, Option.bind_some, h2]
  simp

theorem wanted_free {o : Oper} {y : Nat → Option Bool} (ho : o.guard = none) : Region.wanted o y = true := by simp [Region.wanted, ho]

theorem no_of {b : Bool} {p : Prop} (hb : b = false) (h : b = true) : p := by rw [hb] at h; cases h

/-- The one that comes up. -/
theorem any_one {i k : Nat} {oi : Oper} {L : Array Bool} {a : Act} {w : World} (hr : Region.ready md ops L = [i]) (hi : ops[i]? = some oi)
    (h : ∀ K : Act → World → Prop, (∀ b x, wpAny P md ops Q k (L.setIfInBounds i true) b x → K b x) → if Region.wanted oi (yielded ops a.tmps) = true then Oper.wp P oi a w K Q else K (a.put oi.dst undef) w) :
    wpAny P md ops Q (k + 1) L a w := by
  refine ⟨fun h0 => (by rw [hr] at h0; cases h0), fun j hj => ?_⟩
  rw [hr] at hj
  have hji : j = i := by simpa using hj
  subst hji
  exact wpOp_step hi h

/-- All have come up. -/
theorem any_done {L : Array Bool} {a : Act} {w : World} (hr : Region.ready md ops L = []) (h : Q .normal a w) : ∀ k, wpAny P md ops Q k L a w
  | 0 => ⟨hr, h⟩
  | _ + 1 => ⟨fun _ => h, fun j hj => by rw [hr] at hj; cases hj⟩

end

theorem enter_run {P : Program} {f : FuncId} {fn : Func} (hf : P.funcs[f]? = some fn) (hname : (fn.name == "runtime.NumGoroutine") = false) (hb : fn.body.isNone = false) (args : Array Value) (w : World) :
    (callFunc f args).run P w = .ok (.enter f args) w := by
  have h1 : (fn.name = "runtime.NumGoroutine") = False := by simpa using hname
  cases h2 : fn.body with
  | none => rw [h2] at hb; cases hb
  | some c => simp [callFunc, hf, h1, h2]

/-- A call of a Go function within a region. -/
theorem step_call {P : Program} {ops : Array Oper} {o : Oper} {a : Act} {w : World} {K : Act → World → Prop} {Q : Exit → Act → World → Prop} {E : Prop} (hw : Region.wanted o (yielded ops a.tmps) = true)
    {f : FuncId} {fn : Func} {args : Array Operand} {ts : Array TypeId} (vs : Array Value) (ho : o.op = .call { callee := .value (.func f), args := args, argTypes := ts }) (hv : args.map a.eval = vs)
    (hf : P.funcs[f]? = some fn) (hname : (fn.name == "runtime.NumGoroutine") = false) (hb : fn.body.isNone = false)
    (h : Calls P f vs w (fun e w' => ∃ v, e = .returned v ∧ K (a.put o.dst v) w')) : if Region.wanted o (yielded ops a.tmps) = true then Oper.wp P o a w K Q else E := by
  rw [if_pos hw]
  have he : a.eval (.func f) = .func (.func f) #[] #[] := rfl
  unfold Oper.wp execOp
  simp only [ho, resolve, he, Deferred.ofValue, invoke, Sem.run_bind, Sem.run_pure, Result.andThen_ok, hv]
  have : #[] ++ vs ++ #[] = vs := by simp
  simp only [this, enter_run hf hname hb, Oper.upon_enter]
  refine h.mono ?_
  rintro e w' ⟨v, rfl, hk⟩
  exact hk

/-- append(d, x...) whose run is known. -/
theorem step_append {P : Program} {ops : Array Oper} {o : Oper} {a : Act} {w : World} {K : Act → World → Prop} {Q : Exit → Act → World → Prop} {E : Prop} (hw : Region.wanted o (yielded ops a.tmps) = true)
    (d x : Operand) (dT sT : TypeId) (hop : o.op = Op.call { callee := Callee.builtin Builtin.append, args := #[d, x], argTypes := #[dT, sT] })
    (v u : Value) (hd : a.eval d = v) (hx : a.eval x = u) {v' : Value} {w' : World} (hr : (Builtin.append_ #[dT, sT] o.type #[v, u]).run P w = .ok v' w') (hK : K (a.put o.dst v') w') :
    if Region.wanted o (yielded ops a.tmps) = true then Oper.wp P o a w K Q else E := by
  rw [if_pos hw]
  unfold Oper.wp execOp
  simp only [hop, resolve, invoke, builtin, Sem.run_bind, Sem.run_pure, Result.andThen_ok, List.map_toArray, List.map_cons, List.map_nil, hd, hx, hr]
  exact hK

/-- copy(d, x) whose run is known. -/
theorem step_copy {P : Program} {ops : Array Oper} {o : Oper} {a : Act} {w : World} {K : Act → World → Prop} {Q : Exit → Act → World → Prop} {E : Prop} (hw : Region.wanted o (yielded ops a.tmps) = true)
    (d x : Operand) (dT sT : TypeId) (hop : o.op = Op.call { callee := Callee.builtin Builtin.copy, args := #[d, x], argTypes := #[dT, sT] })
    (v u : Value) (hd : a.eval d = v) (hx : a.eval x = u) {v' : Value} {w' : World} (hr : (Builtin.copy_ #[dT, sT] o.type #[v, u]).run P w = .ok v' w') (hK : K (a.put o.dst v') w') :
    if Region.wanted o (yielded ops a.tmps) = true then Oper.wp P o a w K Q else E := by
  rw [if_pos hw]
  unfold Oper.wp
  simp [execOp, hop, resolve, invoke, builtin, hd, hx, hr, Result.andThen]
  exact hK

end Go.Proofs.Ytanjbbmgpodbgaa
