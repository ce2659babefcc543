/-
  The walk of the law SegTorn; ahead of it its last region: All, a copy of a front of texts, one text more, and both are held against one another, in whichever order.
-/
import Derived.Test.YtjdpglmphacfjaaGreatDoorSegTear
import Derived.Test.YtjdpglmphacfjaaGreatDoorRegInv
import Derived.Great.BuildSlice
import Derived.Great.FillDense
import Derived.Test.YtjdpglmphacfjaaGreatDoorBegun4
import Derived.Test.YtjdpglmphacfjaaGreatDoorShortNew
import Derived.Deep.CutRange
import Derived.Deep.CutBlock
import Derived.Lib.SlBytesConst
import Derived.Deep.RegionWith
namespace Go.Proofs.YtjdpglmphacfjaaGreatDoor
open Go Go.RowKit

theorem enter_run {P : Program} {f : FuncId} {fn : Func} (hf : P.funcs[f]? = some fn) (hname : (fn.name == "runtime.NumGoroutine") = false) (hb : fn.body.isNone = false) (args : Array Value) (w : World) :
    (callFunc f args).run P w = .ok (.enter f args) w := by
  have h1 : (fn.name = "runtime.NumGoroutine") = False := by simpa using hname
  cases h2 : fn.body with
  | none => rw [h2] at hb; cases hb
  | some c => simp [callFunc, hf, h1, h2]

/-- A call of a Go function within a region. -/
theorem step_call {P : Program} {ops : Array Oper} {o : Oper} {a : Act} {w : World} {K : Act → World → Prop} {Q : Exit → Act → World → Prop} {E : Prop} (hw : Region.wanted o (yielded ops a.tmps) = true)
    {f : FuncId} {fn : Func} {args : Array Operand} {ts : Array TypeId} (vs : Array Value) (ho : o.op = .call { callee := .value (.func f), args := args, argTypes := ts }) (hv : args.map a.eval = vs)
    (hf : P.funcs[f]? = some fn) (hname : (fn.name == "runtime.NumGoroutine") = false) (hb : fn.body.isNone = false)
    (h : Calls P f vs w (fun e w' => ∃ v, e = .returned v ∧ K (a.put o.dst v) w')) : if Region.wanted o (yielded ops a.tmps) = true then Oper.wp P o a w K Q else E := by
  rw [if_pos hw]
  have he : a.eval (.func f) = .func (.func f) #[] #[] := rfl
  unfold Oper.wp execOp
  simp only [ho, resolve, he, Deferred.ofValue, invoke, Sem.run_bind, Sem.run_pure, Result.andThen_ok, hv]
  have : #[] ++ vs ++ #[] = vs := by simp
  simp only [this, enter_run hf hname hb, Oper.upon_enter]
  refine h.mono ?_
  rintro e w' ⟨v, rfl, hk⟩
  exact hk

/-- Which step made a block. -/
def upd (g : Nat → Nat) (w : World) (j : Nat) : Nat → Nat := fun k => if k < w.heap.size then g k else j
theorem upd_old {g : Nat → Nat} {w : World} {j k : Nat} (h : k < w.heap.size) : upd g w j k = g k := if_pos h
theorem upd_new {g : Nat → Nat} {w : World} {j k : Nat} (h : w.heap.size ≤ k) : upd g w j k = j := if_neg (by omega)

def FA (V : List (List UInt8)) (n : Nat) (g : Nat → Nat) (x : Value) (w : World) : Prop := ∃ b, x = .slice (some ⟨b, 0, none⟩) n n ∧ Txs w (fun k => g k = 4) x V
def FB (y : World) (U : List (List UInt8)) (g : Nat → Nat) (x : Value) (w : World) : Prop := Txs w (fun k => k < y.heap.size ∨ g k = 8) x U ∧ ∀ k, x.ownBlock = some k → y.heap.size ≤ k ∧ g k = 8
def FC (y : World) (g : Nat → Nat) (x : Value) (w : World) : Prop := ∃ b, x = .slice (some ⟨b, 0, none⟩) 1 1 ∧ w.heap[b]? = some (.cells #[.int .u8 122] 5) ∧ y.heap.size ≤ b ∧ g b = 9
def FD (y : World) (g : Nat → Nat) (x : Value) (w : World) : Prop := ∃ b, x = .slice (some ⟨b, 0, none⟩) 1 1 ∧ Sl w (some ⟨b, 0, none⟩) 1 [122] ∧ b < w.heap.size ∧ y.heap.size ≤ b ∧ g b = 9
def FE (y : World) (g : Nat → Nat) (x : Value) (w : World) : Prop := ∃ t b, x = .slice (some ⟨t, 0, none⟩) 1 1 ∧ w.cell? ⟨t, 0, none⟩ = some (.slice (some ⟨b, 0, none⟩) 1 1) ∧ Sl w (some ⟨b, 0, none⟩) 1 [122] ∧ b < w.heap.size ∧ t < w.heap.size ∧ y.heap.size ≤ t ∧ g t = 11 ∧ g b = 9
def FF (V : List (List UInt8)) (n : Nat) (x : Value) (w : World) : Prop := ∃ ao c, x = .slice ao n c ∧ Tl w ao c V

section
variable {l : List Nat} {w w' y : World} {g : Nat → Nat} {x : Value} {n j : Nat} {U V : List (List UInt8)}

theorem FA.keep (h : FA V n g x w) (t : Turn l w w') (hl : ∀ k ∈ l, g k ≠ 4) : FA V n (upd g w j) x w' := by
  obtain ⟨b, hx, ht⟩ := h
  exact ⟨b, hx, ((ht.imp (Q := fun k => g k = 4 ∧ k < w.heap.size) (fun k hk hp => ⟨hp, hk⟩)).turn t (fun k hp hm => hl k hm hp.1)).imp (fun k _ hp => by rw [upd_old hp.2]; exact hp.1)⟩

theorem FB.keep (h : FB y U g x w) (t : Turn l w w') (hl : ∀ k ∈ l, y.heap.size ≤ k ∧ g k ≠ 8) : FB y U (upd g w j) x w' := by
  obtain ⟨ht, ho⟩ := h
  refine ⟨((ht.imp (Q := fun k => (k < y.heap.size ∨ g k = 8) ∧ k < w.heap.size) (fun k hk hp => ⟨hp, hk⟩)).turn t (fun k hp hm => ?_)).imp (fun k _ hp => by rw [upd_old hp.2]; exact hp.1), fun k hk => ?_⟩
  · have := hl k hm
    rcases hp.1 with h1 | h1
    · omega
    · exact this.2 h1
  · obtain ⟨-, xs, hr, -⟩ := ht
    rw [upd_old (hr.lt k hk).2]
    exact ho k hk

theorem FC.keep (h : FC y g x w) (t : Turn l w w') (hl : ∀ k ∈ l, g k ≠ 9) : FC y (upd g w j) x w' := by
  obtain ⟨b, hx, hh, hb, hg⟩ := h
  exact ⟨b, hx, t.heap hh (fun hm => hl b hm hg), hb, by rw [upd_old (lt_of_heap hh)]; exact hg⟩

theorem FD.keep (h : FD y g x w) (t : Turn l w w') (hl : ∀ k ∈ l, g k ≠ 9) : FD y (upd g w j) x w' := by
  obtain ⟨b, hx, hs, hlt, hb, hg⟩ := h
  exact ⟨b, hx, hs.turn t (fun A hA _ hm => by cases hA; exact hl b hm hg), Nat.lt_of_lt_of_le hlt t.size, hb, by rw [upd_old hlt]; exact hg⟩

theorem FE.keep (h : FE y g x w) (t : Turn l w w') (hl : ∀ k ∈ l, g k ≠ 9 ∧ g k ≠ 11) : FE y (upd g w j) x w' := by
  obtain ⟨tb, b, hx, hc, hs, hlt, htt, hb, hg, hg2⟩ := h
  exact ⟨tb, b, hx, t.cell hc (fun hm => (hl tb hm).2 hg), hs.turn t (fun A hA _ hm => by cases hA; exact (hl b hm).1 hg2), Nat.lt_of_lt_of_le hlt t.size, Nat.lt_of_lt_of_le htt t.size, hb, by rw [upd_old htt]; exact hg, by rw [upd_old hlt]; exact hg2⟩

theorem FF.keep (h : FF V n x w) (t : Turn [] w w') : FF V n x w' := by
  obtain ⟨ao, c, hx, ht⟩ := h
  exact ⟨ao, c, hx, ht.turn t.belowAll⟩
end

/-- What holds between the region's steps. -/
structure TInv (y : World) (U V : List (List UInt8)) (n n1 cv lb : Nat) (av : Option Addr) (ds : List Deferred) (g : Nat → Nat) (L : Array Bool) (a : Act) (w : World) : Prop where
  size : L.size = 16
  pre : ∀ i ∈ [0, 1, 2, 3, 5, 6, 7], L.getD i false = true
  tm : a.tmps.size = 158
  df : a.defers = ds
  gd : a.eval (.tmp 145) = .bool true
  t146 : a.eval (.tmp 146) = .pointer (some ⟨lb, 0, none⟩)
  t150 : a.eval (.tmp 150) = .slice av n cv
  turn : Turn [] y w
  o12 : L.getD 12 false = true → L.getD 10 false = true
  o11 : L.getD 11 false = true → L.getD 10 false = true
  fA : L.getD 4 false = true → FA V n1 g (a.eval (.tmp 147)) w
  fB : L.getD 8 false = true → L.getD 12 false = true ∨ FB y U g (a.eval (.tmp 151)) w
  fC : L.getD 9 false = true → L.getD 10 false = true ∨ FC y g (a.eval (.tmp 152)) w
  fD : L.getD 10 false = true → FD y g (a.eval (.tmp 153)) w
  fE : L.getD 11 false = true → FE y g (a.eval (.tmp 154)) w
  fF : L.getD 12 false = true → FF V n1 (a.eval (.tmp 155)) w
  fG : L.getD 13 false = true → a.eval (.tmp 156) = .bool true
  fH : L.getD 14 false = true → a.eval (.tmp 157) = .bool true
  fI : L.getD 15 false = true → a.eval (.tmp 6) = .bool true

def slotOf : Nat → Nat
  | 4 => 147 | 8 => 151 | 9 => 152 | 10 => 153 | 11 => 154 | 12 => 155 | 13 => 156 | 14 => 157 | 15 => 6 | _ => 1000

/-- A step: what is new of it; what else holds stays. -/
theorem TInv.next {y : World} {U V : List (List UInt8)} {n n1 cv lb : Nat} {av : Option Addr} {ds : List Deferred} {g : Nat → Nat} {L : Array Bool} {a : Act} {w w' : World} (h : TInv y U V n n1 cv lb av ds g L a w)
    {j : Nat} (hj : j ∈ [4, 8, 9, 10, 11, 12, 13, 14, 15]) (v : Value) {l : List Nat} (t : Turn l w w') (hly : ∀ k ∈ l, y.heap.size ≤ k)
    (h12 : j = 12 → L.getD 10 false = true) (h11 : j = 11 → L.getD 10 false = true)
    (l4 : ∀ k ∈ l, g k ≠ 4) (l8 : j = 12 ∨ ∀ k ∈ l, g k ≠ 8) (l9 : j = 10 ∨ ∀ k ∈ l, g k ≠ 9) (l9' : j = 10 → L.getD 10 false ≠ true) (l11 : ∀ k ∈ l, g k ≠ 11) (l12 : L.getD 12 false = true → l = [])
    (n4 : j = 4 → FA V n1 (upd g w 4) v w') (n8 : j = 8 → FB y U (upd g w 8) v w') (n9 : j = 9 → FC y (upd g w 9) v w') (n10 : j = 10 → FD y (upd g w 10) v w')
    (n11 : j = 11 → FE y (upd g w 11) v w') (n12 : j = 12 → FF V n1 v w') (n13 : j = 13 → v = .bool true) (n14 : j = 14 → v = .bool true) (n15 : j = 15 → v = .bool true) :
    TInv y U V n n1 cv lb av ds (upd g w j) (L.setIfInBounds j true) (a.put (some (slotOf j)) v) w' := by
  have hd : slotOf j < a.tmps.size := by
    rw [h.tm]
    simp only [List.mem_cons, List.not_mem_nil, or_false] at hj
    rcases hj with rfl | rfl | rfl | rfl | rfl | rfl | rfl | rfl | rfl <;> decide
  have same : (a.put (some (slotOf j)) v).eval (.tmp (slotOf j)) = v := Act.eval_put_same a _ v hd
  have other : ∀ d, slotOf j ≠ d → (a.put (some (slotOf j)) v).eval (.tmp d) = a.eval (.tmp d) := fun d hne => Act.eval_put_ne a _ d v hne
  have h16 : j < L.size := by
    rw [h.size]
    simp only [List.mem_cons, List.not_mem_nil, or_false] at hj
    omega
  have hset : (L.setIfInBounds j true).getD j false = true := by simp [h16]
  have back : ∀ i, i ≠ j → (L.setIfInBounds j true).getD i false = true → L.getD i false = true := fun i hne hi => listed_of_set (Ne.symm hne) hi
  refine ⟨by simp [h.size], fun i hi => listed_set (h.pre i hi), by rw [Act.size_put]; exact h.tm, by rw [Act.defers_put']; exact h.df, ?_, ?_, ?_, h.turn.trans t (fun k hk => .inr (hly k hk)), ?_, ?_, ?_, ?_, ?_, ?_, ?_, ?_, ?_, ?_, ?_⟩
  · rw [other 145 (by simp only [List.mem_cons, List.not_mem_nil, or_false] at hj; rcases hj with rfl | rfl | rfl | rfl | rfl | rfl | rfl | rfl | rfl <;> decide)]; exact h.gd
  · rw [other 146 (by simp only [List.mem_cons, List.not_mem_nil, or_false] at hj; rcases hj with rfl | rfl | rfl | rfl | rfl | rfl | rfl | rfl | rfl <;> decide)]; exact h.t146
  · rw [other 150 (by simp only [List.mem_cons, List.not_mem_nil, or_false] at hj; rcases hj with rfl | rfl | rfl | rfl | rfl | rfl | rfl | rfl | rfl <;> decide)]; exact h.t150
  · intro hi
    by_cases e : j = 12
    · exact listed_set (h12 e)
    · exact listed_set (h.o12 (back 12 (Ne.symm e) hi))
  · intro hi
    by_cases e : j = 11
    · exact listed_set (h11 e)
    · exact listed_set (h.o11 (back 11 (Ne.symm e) hi))
  · intro hi
    by_cases e : j = 4
    · subst e; rw [show (147 : Nat) = slotOf 4 from rfl, same]; exact n4 rfl
    · rw [other 147 (by simp only [List.mem_cons, List.not_mem_nil, or_false] at hj; rcases hj with rfl | rfl | rfl | rfl | rfl | rfl | rfl | rfl | rfl <;> first | decide | exact absurd rfl e)]
      exact (h.fA (back 4 (Ne.symm e) hi)).keep t l4
  · intro hi
    by_cases e : j = 8
    · subst e; rw [show (151 : Nat) = slotOf 8 from rfl, same]; exact .inr (n8 rfl)
    · rw [other 151 (by simp only [List.mem_cons, List.not_mem_nil, or_false] at hj; rcases hj with rfl | rfl | rfl | rfl | rfl | rfl | rfl | rfl | rfl <;> first | decide | exact absurd rfl e)]
      rcases h.fB (back 8 (Ne.symm e) hi) with h1 | h1
      · exact .inl (listed_set h1)
      · rcases l8 with h2 | h2
        · subst h2; exact .inl hset
        · exact .inr (h1.keep t (fun k hk => ⟨hly k hk, h2 k hk⟩))
  · intro hi
    by_cases e : j = 9
    · subst e; rw [show (152 : Nat) = slotOf 9 from rfl, same]; exact .inr (n9 rfl)
    · rw [other 152 (by simp only [List.mem_cons, List.not_mem_nil, or_false] at hj; rcases hj with rfl | rfl | rfl | rfl | rfl | rfl | rfl | rfl | rfl <;> first | decide | exact absurd rfl e)]
      rcases h.fC (back 9 (Ne.symm e) hi) with h1 | h1
      · exact .inl (listed_set h1)
      · rcases l9 with h2 | h2
        · subst h2; exact .inl hset
        · exact .inr (h1.keep t h2)
  · intro hi
    by_cases e : j = 10
    · subst e; rw [show (153 : Nat) = slotOf 10 from rfl, same]; exact n10 rfl
    · rw [other 153 (by simp only [List.mem_cons, List.not_mem_nil, or_false] at hj; rcases hj with rfl | rfl | rfl | rfl | rfl | rfl | rfl | rfl | rfl <;> first | decide | exact absurd rfl e)]
      exact (h.fD (back 10 (Ne.symm e) hi)).keep t (l9.resolve_left e)
  · intro hi
    by_cases e : j = 11
    · subst e; rw [show (154 : Nat) = slotOf 11 from rfl, same]; exact n11 rfl
    · rw [other 154 (by simp only [List.mem_cons, List.not_mem_nil, or_false] at hj; rcases hj with rfl | rfl | rfl | rfl | rfl | rfl | rfl | rfl | rfl <;> first | decide | exact absurd rfl e)]
      have h1 := back 11 (Ne.symm e) hi
      have h2 := l9.resolve_left (fun e10 => l9' e10 (h.o11 h1))
      exact (h.fE h1).keep t (fun k hk => ⟨h2 k hk, l11 k hk⟩)
  · intro hi
    by_cases e : j = 12
    · subst e; rw [show (155 : Nat) = slotOf 12 from rfl, same]; exact n12 rfl
    · rw [other 155 (by simp only [List.mem_cons, List.not_mem_nil, or_false] at hj; rcases hj with rfl | rfl | rfl | rfl | rfl | rfl | rfl | rfl | rfl <;> first | decide | exact absurd rfl e)]
      have h1 := back 12 (Ne.symm e) hi
      have h2 := l12 h1
      subst h2
      exact (h.fF h1).keep t
  · intro hi
    by_cases e : j = 13
    · subst e; rw [show (156 : Nat) = slotOf 13 from rfl, same]; exact n13 rfl
    · rw [other 156 (by simp only [List.mem_cons, List.not_mem_nil, or_false] at hj; rcases hj with rfl | rfl | rfl | rfl | rfl | rfl | rfl | rfl | rfl <;> first | decide | exact absurd rfl e)]
      exact h.fG (back 13 (Ne.symm e) hi)
  · intro hi
    by_cases e : j = 14
    · subst e; rw [show (157 : Nat) = slotOf 14 from rfl, same]; exact n14 rfl
    · rw [other 157 (by simp only [List.mem_cons, List.not_mem_nil, or_false] at hj; rcases hj with rfl | rfl | rfl | rfl | rfl | rfl | rfl | rfl | rfl <;> first | decide | exact absurd rfl e)]
      exact h.fH (back 14 (Ne.symm e) hi)
  · intro hi
    by_cases e : j = 15
    · subst e; rw [show (6 : Nat) = slotOf 15 from rfl, same]; exact n15 rfl
    · rw [other 6 (by simp only [List.mem_cons, List.not_mem_nil, or_false] at hj; rcases hj with rfl | rfl | rfl | rfl | rfl | rfl | rfl | rfl | rfl <;> first | decide | exact absurd rfl e)]
      exact h.fI (back 15 (Ne.symm e) hi)

/-- A row of one: of a byte, of a slice. -/
theorem one_row {w : World} {t e : TypeId} {x z : Value} {b : Nat} (hu : Tryz.prog.underlying t = some (.slice e)) (hr : (Tryz.prog.info? e).map (fun i => (i.zero, i.size, i.bytes)) = some (some z, 1, b))
    (hx : x.cells = #[x]) :
    (Instr.buildSlice t 1 #[(0, x)]).run Tryz.prog w = .ok (.slice (some ⟨w.heap.size, 0, none⟩) 1 1) (w.alloc (.cells #[x] e)) := by
  obtain ⟨i0, hi, hz0, hz1, hz2⟩ := info_parts hr
  exact run_buildSlice w t e 1 #[(0, x)] #[x] i0 z hu hi hz0 (by rw [hz1]; decide) (by rw [hz1]; decide) (by rw [hz1]; exact Great.fill_flat [x] _ (fun v hv => by rw [List.mem_singleton.1 hv]; exact hx) (by simp))

structure At (ops : Array Oper) (i d : Nat) (g : Option (Nat × Bool)) (p : Op) : Prop where
  is : ∃ o, ops[i]? = some o ∧ o.dst = some d ∧ o.guard = g ∧ o.op = p

theorem torn_end {ops : Array Oper} {Q : Exit → Act → World → Prop} {y : World} {U V : List (List UInt8)} {n n1 cv lb : Nat} {av : Option Addr} {ds : List Deferred} {tsA tsE : Array TypeId}
    (hsz : ops.size = 16) (hg2 : (ops[2]?).bind (·.dst) = some 145) (hfo : forthB .any ops = true)
    (hw : ([(8, 4), (12, 8), (12, 11), (13, 4), (13, 12), (10, 9), (11, 10), (14, 13), (15, 14)].all fun p => Region.waitsFor .any ops p.1 p.2) = true)
    (o4 : At ops 4 147 (some (2, true)) (.call { callee := .value (.func 16), args := #[.tmp 146], argTypes := tsA }))
    (o8 : At ops 8 151 (some (2, true)) (.call { callee := .builtin .append, args := #[.const (.slice none 0 0), .tmp 150], argTypes := #[34, 34] }))
    (o9 : At ops 9 152 (some (2, true)) (.buildSlice 31 1 #[(0, .const (.int .u8 122))]))
    (o10 : At ops 10 153 (some (2, true)) (.convert 31 31 (.tmp 152)))
    (o11 : At ops 11 154 (some (2, true)) (.buildSlice 34 1 #[(0, .tmp 153)]))
    (o12 : At ops 12 155 (some (2, true)) (.call { callee := .builtin .append, args := #[.tmp 151, .tmp 154], argTypes := #[34, 34] }))
    (o13 : At ops 13 156 (some (2, true)) (.call { callee := .value (.func 15), args := #[.tmp 147, .tmp 155], argTypes := tsE }))
    (o14 : At ops 14 157 none (.pick (.tmp 145) (.tmp 156) (.const (.bool false))))
    (o15 : At ops 15 6 none (.assign (.tmp 157)))
    (hUn : U.length = n) (hV : V = U ++ [[122]]) (hn1 : n1 = n + 1) (hb : n ≤ 1000) (hTl : Tl y av cv U)
    (HALL : ∀ wx, Turn [] y wx → Calls Tryz.prog 16 #[.pointer (some ⟨lb, 0, none⟩)] wx fun e w' => e = .returned (.slice (some ⟨wx.heap.size, 0, none⟩) n1 n1) ∧ Txs w' (fun k => wx.heap.size ≤ k ∧ k < w'.heap.size) (.slice (some ⟨wx.heap.size, 0, none⟩) n1 n1) V ∧ Turn [] wx w')
    (HEQ : ∀ wx a c a' c', Tl wx a c V → Tl wx a' c' V → Calls Tryz.prog 15 #[.slice a n1 c, .slice a' n1 c'] wx fun e w' => e = .returned (.bool true) ∧ Below wx.heap.size wx w')
    (hend : ∀ a w, a.tmps.size = 158 → a.defers = ds → a.eval (.tmp 6) = .bool true → Turn [] y w → Q .normal a w)
    {g : Nat → Nat} {k : Nat} {L : Array Bool} {a : Act} {w : World} (hk : L.toList.count false ≤ k) (h : TInv y U V n n1 cv lb av ds g L a w) : wpAny Tryz.prog .any ops Q k L a w := by
  refine inv_any (Inv := fun L a w => ∃ g, TInv y U V n n1 cv lb av ds g L a w) ?_ ?_ k L a w hk ⟨g, h⟩
  · clear h hk
    rintro L a w j o ⟨g, h⟩ hun ho hdep K hK
    have hwl : ∀ i, (j, i) ∈ [(8, 4), (12, 8), (12, 11), (13, 4), (13, 12), (10, 9), (11, 10), (14, 13), (15, 14)] → L.getD i false = true := fun i hi => waits_listed (List.all_eq_true.1 hw _ hi) ho hdep
    have hno := not_listed hun
    have hj16 : j < 16 := by rw [← hsz]; exact (Array.getElem?_eq_some_iff.1 ho).1
    have hjj : j ∈ [4, 8, 9, 10, 11, 12, 13, 14, 15] := by
      have h1 : ∀ i, i ∈ [0, 1, 2, 3, 5, 6, 7] → j ≠ i := fun i hi e => hno (by rw [e]; exact h.pre i hi)
      simp only [List.mem_cons, List.not_mem_nil, or_false, forall_eq_or_imp, forall_eq] at h1 ⊢
      omega
    have gd : ∀ {o : Oper}, o.guard = some (2, true) → Region.wanted o (yielded ops a.tmps) = true := fun hg => wanted_of hg hg2 (by rw [h.tm]; decide) h.gd
    have hsz0 := h.turn.size
    have ho' := ho
    simp only [List.mem_cons, List.not_mem_nil, or_false] at hjj
    rcases hjj with rfl | rfl | rfl | rfl | rfl | rfl | rfl | rfl | rfl
    · obtain ⟨o', h1, h2, h3, h4⟩ := o4.is
      rw [ho] at h1; cases h1
      refine step_call (gd h3) #[.pointer (some ⟨lb, 0, none⟩)] h4 (by simp [h.t146]) Tryz.func16 (by kernel_rfl) (by kernel_rfl) ?_
      refine (HALL w h.turn).mono ?_
      rintro e w' ⟨rfl, ht, t⟩
      refine ⟨_, rfl, hK _ _ ⟨upd g w 4, ?_⟩⟩
      rw [h2]
      exact h.next (j := 4) (by simp) _ t (by simp) (by simp) (by simp) (by simp) (.inr (by simp)) (.inr (by simp)) (by simp) (by simp) (fun _ => rfl)
        (fun _ => ⟨_, rfl, ht.imp (fun k _ hp => upd_new hp.1)⟩) (by simp) (by simp) (by simp) (by simp) (by simp) (by simp) (by simp) (by simp)
    · obtain ⟨o', h1, h2, h3, h4⟩ := o8.is
      rw [ho] at h1; cases h1
      refine step_ap1 (gd h3) (.tmp 150) h4 av n cv U h.t150 hUn y hTl h.turn hb ?_
      intro v' w' ht hown t
      refine hK _ _ ⟨upd g w 8, ?_⟩
      rw [h2]
      exact h.next (j := 8) (by simp) _ t (by simp) (by simp) (by simp) (by simp) (.inr (by simp)) (.inr (by simp)) (by simp) (by simp) (fun _ => rfl)
        (by simp) (fun _ => ⟨ht.imp (fun k _ hp => hp.imp id (fun hp => upd_new hp.1)), fun k hk => by rw [hown k hk]; exact ⟨hsz0, upd_new (Nat.le_refl _)⟩⟩) (by simp) (by simp) (by simp) (by simp) (by simp) (by simp) (by simp)
    · obtain ⟨o', h1, h2, h3, h4⟩ := o9.is
      rw [ho] at h1; cases h1
      rw [if_pos (gd h3)]
      have hr := one_row (w := w) (x := .int .u8 122) Tryz.underlying31 Tryz.u8row (by rfl)
      unfold Oper.wp execOp
      simp only [h4, Sem.run_bind, Act.eval, List.map_toArray, List.map_cons, List.map_nil, hr, Result.andThen_ok]
      refine hK _ _ ⟨upd g w 9, ?_⟩
      rw [h2]
      exact h.next (j := 9) (by simp) _ (Turn.alloc [] w _) (by simp) (by simp) (by simp) (by simp) (.inr (by simp)) (.inr (by simp)) (by simp) (by simp) (fun _ => rfl)
        (by simp) (by simp) (fun _ => ⟨_, rfl, heap_alloc_new w _, hsz0, upd_new (Nat.le_refl _)⟩) (by simp) (by simp) (by simp) (by simp) (by simp) (by simp)
    · obtain ⟨o', h1, h2, h3, h4⟩ := o10.is
      rw [ho] at h1; cases h1
      obtain ⟨b, hx, hh, hb1, hb2⟩ := (h.fC (hwl 9 (by simp))).resolve_left hno
      rw [if_pos (gd h3)]
      have hr := run_frz hh
      unfold Oper.wp execOp
      simp only [h4, Sem.run_bind, hx, hr, Result.andThen_ok]
      refine hK _ _ ⟨upd g w 10, ?_⟩
      rw [h2]
      exact h.next (j := 10) (by simp) _ (frz_turn w b) (by simpa using hb1) (by simp) (by simp) (by simp [hb2]) (.inr (by simp [hb2])) (.inl rfl) (fun _ => hno) (by simp [hb2]) (fun h12 => absurd (h.o12 h12) hno)
        (by simp) (by simp) (by simp) (fun _ => ⟨b, rfl, sl_frz hh, by rw [frz_size]; exact lt_of_heap hh, hb1, by rw [upd_old (lt_of_heap hh)]; exact hb2⟩) (by simp) (by simp) (by simp) (by simp) (by simp)
    · obtain ⟨o', h1, h2, h3, h4⟩ := o11.is
      rw [ho] at h1; cases h1
      have h10 := hwl 10 (by simp)
      obtain ⟨b, hx, hs, hlt, hb1, hb2⟩ := h.fD h10
      rw [if_pos (gd h3)]
      have hr := one_row (w := w) (x := .slice (some ⟨b, 0, none⟩) 1 1) Tryz.underlying34 Tryz.slrow (by rfl)
      unfold Oper.wp execOp
      simp only [h4, Sem.run_bind, hx, List.map_toArray, List.map_cons, List.map_nil, hr, Result.andThen_ok]
      refine hK _ _ ⟨upd g w 11, ?_⟩
      rw [h2]
      exact h.next (j := 11) (by simp) _ (Turn.alloc [] w _) (by simp) (by simp) (fun _ => h10) (by simp) (.inr (by simp)) (.inr (by simp)) (by simp) (by simp) (fun _ => rfl)
        (by simp) (by simp) (by simp) (by simp) (fun _ => ⟨_, b, rfl, cell_al rfl, sl_up (Turn.alloc [] w _) hs, by simp; omega, by simp, hsz0, upd_new (Nat.le_refl _), by rw [upd_old hlt]; exact hb2⟩) (by simp) (by simp) (by simp) (by simp)
    · obtain ⟨o', h1, h2, h3, h4⟩ := o12.is
      rw [ho] at h1; cases h1
      obtain ⟨htx, hown⟩ := (h.fB (hwl 8 (by simp))).resolve_left hno
      have h11 := hwl 11 (by simp)
      obtain ⟨tb, b, hx, hc, hs, hlt, htt, hb1, hb2, hb3⟩ := h.fE h11
      refine step_ap2 (gd h3) (.tmp 151) (.tmp 154) h4 _ U n tb b rfl hx hc (htx.imp fun _ _ _ => trivial) hs (fun e => by have := (hown b e).2; omega) hUn hb ?_
      intro v' w' ht t
      rw [← hV] at ht
      refine hK _ _ ⟨upd g w 12, ?_⟩
      rw [h2]
      have hl : ∀ k ∈ (a.eval (.tmp 151)).ownBlock.toList, y.heap.size ≤ k ∧ g k = 8 := fun k hk => hown k (Option.mem_toList.1 hk)
      obtain ⟨a4, c4, hv4, -⟩ := ht.form
      have hVl : V.length = n1 := by rw [hV, List.length_append, hUn, hn1]; rfl
      rw [hVl] at hv4
      subst hv4
      exact h.next (j := 12) (by simp) _ t (fun k hk => (hl k hk).1) (fun _ => h.o11 h11) (by simp) (fun k hk => by rw [(hl k hk).2]; decide) (.inl rfl) (.inr (fun k hk => by rw [(hl k hk).2]; decide)) (by simp) (fun k hk => by rw [(hl k hk).2]; decide) (fun h12 => absurd h12 hno)
        (by simp) (by simp) (by simp) (by simp) (by simp) (fun _ => ⟨a4, c4, rfl, ht.tl.2⟩) (by simp) (by simp) (by simp)
    · obtain ⟨o', h1, h2, h3, h4⟩ := o13.is
      rw [ho] at h1; cases h1
      obtain ⟨b, hx, ht⟩ := h.fA (hwl 4 (by simp))
      obtain ⟨a4, c4, hx4, ht4⟩ := h.fF (hwl 12 (by simp))
      rw [hx] at ht
      refine step_call (gd h3) #[.slice (some ⟨b, 0, none⟩) n1 n1, .slice a4 n1 c4] h4 (by simp [hx, hx4]) Tryz.func15 (by kernel_rfl) (by kernel_rfl) ?_
      refine (HEQ w _ _ _ _ ht.tl.2 ht4).mono ?_
      rintro e w' ⟨rfl, hbw⟩
      refine ⟨_, rfl, hK _ _ ⟨upd g w 13, ?_⟩⟩
      rw [h2]
      exact h.next (j := 13) (by simp) _ (Turn.of_below hbw []) (by simp) (by simp) (by simp) (by simp) (.inr (by simp)) (.inr (by simp)) (by simp) (by simp) (fun _ => rfl)
        (by simp) (by simp) (by simp) (by simp) (by simp) (by simp) (by simp) (by simp) (by simp)
    · obtain ⟨o', h1, h2, h3, h4⟩ := o14.is
      rw [ho] at h1; cases h1
      rw [if_pos (wanted_free h3)]
      have hx := h.fG (hwl 13 (by simp))
      have hgd := h.gd
      unfold Oper.wp execOp
      simp only [h4, Sem.run_bind, hgd, hx, asBool, Sem.run_pure, Result.andThen_ok, if_true]
      refine hK _ _ ⟨upd g w 14, ?_⟩
      rw [h2]
      exact h.next (j := 14) (by simp) _ (Turn.refl [] w) (by simp) (by simp) (by simp) (by simp) (.inr (by simp)) (.inr (by simp)) (by simp) (by simp) (fun _ => rfl)
        (by simp) (by simp) (by simp) (by simp) (by simp) (by simp) (by simp) (by simp) (by simp)
    · obtain ⟨o', h1, h2, h3, h4⟩ := o15.is
      rw [ho] at h1; cases h1
      rw [if_pos (wanted_free h3)]
      have hx := h.fH (hwl 14 (by simp))
      unfold Oper.wp execOp
      simp only [h4, hx, Sem.run_pure]
      refine hK _ _ ⟨upd g w 15, ?_⟩
      rw [h2]
      exact h.next (j := 15) (by simp) _ (Turn.refl [] w) (by simp) (by simp) (by simp) (by simp) (.inr (by simp)) (.inr (by simp)) (by simp) (by simp) (fun _ => rfl)
        (by simp) (by simp) (by simp) (by simp) (by simp) (by simp) (by simp) (by simp) (by simp)
  · rintro L a w ⟨g, h⟩ hr
    exact hend a w h.tm h.df (h.fI (all_listed hfo (by rw [h.size, hsz]) hr 15 (by omega))) h.turn

end Go.Proofs.YtjdpglmphacfjaaGreatDoor

namespace Go.Proofs.YtjdpglmphacfjaaGreatDoor
open Go.RowKit

/-- What holds between the log and the two rows that the law keeps of it. -/
structure KeptT (w wr : World) (lb d k : Nat) (T : List (List UInt8)) (L : List Nat) (av ev : Value) : Prop where
  log : LgAt L wr lb d rBig 0 T (oneM T)
  ge : ∀ j ∈ L, w.heap.size ≤ j
  row : Txs wr (fun g => (g ∉ L ∧ w.heap.size ≤ g) ∧ ev.ownBlock ≠ some g) av T
  nums : wr.ownsRow 0 3 1 ev T.length (i64l (endsOf T))
  off : ∀ g, ev.ownBlock = some g → g ∉ L ∧ w.heap.size ≤ g
  few : T.length ≤ k
  short : ∀ t ∈ T, t.length ≤ 30
  ok : ∀ t ∈ T, okF t = true
  bel : Below w.heap.size w wr

def tHalf : List UInt8 := [104, 97, 108, 102]
def tZ : List UInt8 := [122]
theorem nameN : (⟨#[110, 101, 119]⟩ : ByteArray) = ⟨newName.toArray⟩ := rfl

theorem slice_texts (ao : Option Addr) (nl cp m : Nat) (h : m ≤ cp) (w : World) : (Instr.slice 34 (.slice ao nl cp) none (some (.int .i64 (m : Int))) none).run Tryz.prog w = .ok (.slice ao m cp) w := by
  have hu : Tryz.prog.underlying 34 = some (.slice (Tryz.prog.elem 34)) := by kernel_rfl
  have hs : ∀ wx, (sizeOf (Tryz.prog.elem 34)).run Tryz.prog wx = .ok 1 wx := fun _ => by kernel_rfl
  rw [run_slice_h (P := Tryz.prog) w 34 ao nl cp hu .i64 (m : Int) (by omega) (by omega), hs]
  have ha : ao.map (fun A : Addr => A.add 0) = ao := by
    cases ao with
    | none => rfl
    | some A =>
      obtain ⟨b, o, s⟩ := A
      cases s <;> simp [Addr.add]
  simp [Result.andThen, sliced, ha]

set_option maxHeartbeats 8000000 in
set_option maxRecDepth 100000 in
theorem segTorn_walk (a0 : Option Addr) (cap0 : Nat) (l0 : List (List UInt8)) (a1 : Int) (a2 : Bool) (w : World) (w0 : Tl w a0 cap0 l0) (w1 : (Lit.int .i64 a1).wf = true) (htab : Tab w) :
    Calls Tryz.prog 5 #[.slice a0 l0.length cap0, .int .i64 a1, .bool a2] w fun e w' => e = .returned (.bool true) ∧ Below w.heap.size w w' := by
  have hlen := w0.len
  have hb1 := bounds_i64 w1
  have H0 := Lib.hid w0
  have HTB := Lib.hid htab
  clear w0 w1 htab
  go_enter Tryz.func5, Tryz.ntmps5
  go_wp2_with fail
  refine (begun4_calls _ HTB.out).mono ?_
  rintro e x1 ⟨rfl, hb1⟩
  have B1 := Lib.hid hb1
  have T1 := Lib.hid (HTB.out.turn (Turn.of_below hb1 []) (by simp))
  clear hb1
  go_wp2_with fail
  refine (dk_new 1048576 x1).mono ?_
  rintro e x2 ⟨rfl, hd⟩
  rw [room_big] at hd
  have D2 := Lib.hid hd
  obtain ⟨d, hdd⟩ : ∃ d, d = x1.heap.size := ⟨_, rfl⟩
  rw [← hdd] at D2 ⊢
  clear hd hdd
  go_wp2_with fail
  refine (open_calls D2.out T1.out 0 (by decide) 0 (fun n => by simp [mDel, bytesOf]) (by simp)).mono ?_
  rintro e x3 ⟨hok, -⟩
  obtain ⟨lb, rfl, hl3⟩ := hok (by rw [open_first.1])
  rw [open_first.1, open_first.2] at hl3
  have hl3' : Lg [] x1 x3 lb d rBig 0 [] (oneM []) := hl3
  by_cases hneg : a1 < 0
  · have B3 := Lib.hid (B1.out.trans (hl3'.1.belowAll.mono B1.out.size))
    clear hl3 hl3' hok D2
    go_wp2
    go_ret
    exact ⟨rfl, B3.out⟩
  obtain ⟨L0, hL0, hge0⟩ := hl3'.start
  have K0 : Hid (KeptT w x3 lb d 0 [] L0 (.slice none 0 0) (.slice none 0 0)) := Lib.hid ⟨hL0, fun k hk => Nat.le_trans B1.out.size (hge0 k hk), Txs.nil _ _, World.ownsRow_nil _ _ _ _, (by intro g hg; cases hg), by simp, by simp, by simp, B1.out.trans (hl3'.1.belowAll.mono B1.out.size)⟩
  clear hl3 hl3' hok D2 hL0 hge0 T1
  obtain ⟨na, rfl⟩ : ∃ n : Nat, a1 = (n : Int) := ⟨a1.toNat, by omega⟩
  have hd0 : decide ((na : Int) < 0) = false := by simp; try omega
  clear hneg
  go_upto_block 0 with fail
  go_cut [11, 12, 13, 14, 15, 16] from 41 to 73 (fun v ve _ _ _ _ wr => ∃ (k : Nat) (T : List (List UInt8)) (L : List Nat), k ≤ 8 ∧ KeptT w wr lb d k T L v ve)
  case first =>
    go_wp2_with fail
    go_loopw [11, 12, 13] (fun v ve i wr => ∃ (k : Nat) (T : List (List UInt8)) (L : List Nat), k ≤ l0.length ∧ k ≤ 8 ∧ i = .int .i64 k ∧ KeptT w wr lb d k T L v ve) (fun _ _ i _ => 8 - (intOf i).toNat)
    case atStart => exact ⟨0, [], L0, by omega, by omega, rfl, K0.out⟩
    case round =>
      clear K0 B1
      obtain ⟨k, T, L, hk, hk8, rfl, hkp⟩ := hrel
      have KP := Lib.hid hkp
      have hTk := hkp.few
      obtain ⟨av, cv, hv, -⟩ := hkp.row.form
      subst hv
      obtain ⟨ae, ce, hv⟩ := owns_slice hkp.nums
      subst hv
      clear hkp
      obtain ⟨nT, hnT⟩ : ∃ n, n = T.length := ⟨_, rfl⟩
      have HNT := Lib.hid hnT
      rw [← hnT] at hTk KP ⊢
      clear hnT
      have hfl : Hid ((frs T).length ≤ 288) := Lib.hid (by have h1 := frs_le KP.out.short; rw [← HNT.out] at h1; omega)
      by_cases hlt : k < l0.length ∧ k < 8
      · obtain ⟨hl, h8⟩ := hlt
        obtain ⟨ob, off, ha0, hob, hop⟩ := H0.out.at (by intro e; rw [e] at hl; simp at hl)
        subst ha0
        obtain ⟨ax, cx, hcell, hslx⟩ := hop k hl
        have hz := (KP.out.bel.cell (p := ⟨ob, off + k, none⟩) hob).trans hcell
        have hsx := hslx.belowAll KP.out.bel
        clear hop hcell hslx
        generalize l0.getD k [] = x at hz hsx
        obtain ⟨nx, hnx⟩ : ∃ nx, nx = x.length := ⟨_, rfl⟩
        have hd8 : decide ((k : Int) < 8) = true := by simp; omega
        have CSH := Lib.hid (short_new ax cx 30 x wr hsx (by omega))
        rw [← hnx] at hz CSH
        clear hsx hnx
        go_wp2_with fail
        refine CSH.out.mono ?_
        rintro e x4 ⟨ao, co, rfl, hs4, hb4, ha4⟩
        obtain ⟨y, hy⟩ : ∃ y, y = x.take 30 := ⟨_, rfl⟩
        have hy30 : y.length ≤ 30 := by rw [hy, List.length_take]; omega
        rw [← hy] at hs4 ⊢
        have t4 := Turn.of_below hb4 []
        have LA4 := Lib.hid (KP.out.log.shift t4 (by simp) (by simp))
        have hsz4 := hb4.size
        have S4 := Lib.hid hs4
        have A4 := Lib.hid ha4
        have B4 := Lib.hid (KP.out.bel.trans (hb4.mono KP.out.bel.size))
        have R4 := Lib.hid ((KP.out.row.imp (Q := fun g => ((g ∉ L ∧ w.heap.size ≤ g) ∧ (Value.slice ae nT ce).ownBlock ≠ some g) ∧ g < wr.heap.size) (fun g hg hp => ⟨hp, hg⟩)).turn t4 (fun _ _ => by simp))
        have E4 := Lib.hid (ownsRow_turn (show wr.ownsRow 0 3 1 (.slice ae nT ce) nT (i64l (endsOf T)) by have h1 := KP.out.nums; rw [← HNT.out] at h1; exact h1) t4 (fun _ _ => by simp))
        clear hy hs4 ha4 hb4 t4 hz CSH
        by_cases hye : y = []
        · subst hye
          have hdz : decide (0 < ([] : List UInt8).length) = false := rfl
          go_wp2_with fail
          refine (add_form LA4.out.1 ao co [] (by decide)).mono ?_
          rintro e x5 ⟨rfl, rfl⟩
          go_wp2
          go_roundw
          case rel => exact ⟨k + 1, T, L, by omega, by omega, by go_num, ⟨LA4.out, KP.out.ge, R4.out.imp (fun g _ hp => hp.1), by rw [← HNT.out]; exact E4.out, KP.out.off, by rw [← HNT.out]; omega, KP.out.short, KP.out.ok, B4.out⟩⟩
          case measure => simp [intOf]; omega
        · have hyp : 0 < y.length := List.length_pos_iff.2 hye
          have hok : okF y = true := okF_iff.2 ⟨by omega, by omega⟩
          have hnl : ∀ A, ao = some A → A.block ∉ L := fun A hA hm => by have h1 := KP.out.log.2 _ hm; have h2 := A4.out A hA; omega
          have hto := oneM_to (T := T) (by have := hfl.out; omega)
          have CA := add_calls LA4.out.1 ao co y hok S4.out (fun A hA _ => hnl A hA) (by rw [hto.1]; omega) (by rw [← HNT.out]; omega)
          rw [hto.1, hto.2, oneM_app.1, oneM_app.2, if_neg (by have := hfl.out; unfold rBig; omega), if_neg (by have := hfl.out; unfold rBig; omega)] at CA
          have HCA := Lib.hid CA
          have HNL := Lib.hid hnl
          have HOK := Lib.hid hok
          clear CA hnl hok hto
          go_wp2_with fail
          refine HCA.out.mono ?_
          rintro e x5 ⟨rfl, hl5, -⟩
          have hl5' := hl5 (by trivial)
          obtain ⟨L', hL', hin'⟩ := hl5'.next
          have t5 := hl5'.1
          have S5 := Lib.hid (S4.out.turn t5 (fun A hA _ => HNL.out A hA))
          have R5 := Lib.hid (R4.out.turn t5 (fun g hg => hg.1.1.1))
          have E5 := Lib.hid (ownsRow_turn E4.out t5 (fun g hg => (KP.out.off g hg).1))
          have B5 := Lib.hid (B4.out.trans (t5.below KP.out.ge B4.out.size))
          have LA5 := Lib.hid hL'
          have IN5 := Lib.hid hin'
          have hsz5 := t5.size
          have GE5 : Hid (∀ j ∈ L', w.heap.size ≤ j) := Lib.hid (fun j hj => by
            rcases IN5.out j hj with h1 | h1
            · exact KP.out.ge j h1
            · exact Nat.le_trans B4.out.size h1)
          have OF5 : Hid (∀ g, (Value.slice ae nT ce).ownBlock = some g → (g ∉ L' ∧ w.heap.size ≤ g) ∧ g < wr.heap.size) := Lib.hid (fun g hg => by
            have h1 := KP.out.off g hg
            have h2 := (KP.out.nums.lt g hg).2
            refine ⟨⟨fun hm => ?_, h1.2⟩, h2⟩
            rcases IN5.out _ hm with h4 | h4
            · exact h1.1 h4
            · omega)
          clear hl5 hl5' t5 hL' hin' HCA R4 LA4 E4
          obtain ⟨ny, hny⟩ : ∃ n, n = y.length := ⟨_, rfl⟩
          have HNY := Lib.hid hny
          rw [← hny] at hyp ⊢
          have tA := Turn.alloc [] x5 (.cells #[.slice ao ny co] 31)
          obtain ⟨xs, hxs, hfin⟩ := Txs.appended (U := [y]) (Q := fun g => (g ∉ L' ∧ w.heap.size ≤ g) ∧ (Value.slice ae nT ce).ownBlock ≠ some g) (R5.out.turn tA (fun _ _ => by simp)) [.slice ao ny co] rfl (fun i hi => by
            have hi0 : i = 0 := by simpa using hi
            subst hi0
            refine ⟨ao, co, by rw [HNY.out]; rfl, S5.out.turn tA (by simp), fun A hA _ => ?_⟩
            have h1 := A4.out A hA
            have h2 : A.block < x4.heap.size := by have h3 := S4.out; rw [hA] at h3; exact h3.lt (by intro e2; rw [e2] at hye; exact hye rfl)
            refine ⟨⟨⟨fun hm => ?_, by have := KP.out.bel.size; omega⟩, fun e2 => by have := (OF5.out _ e2).2; omega⟩, fun e2 => ?_⟩
            · rcases IN5.out _ hm with h4 | h4
              · have := KP.out.log.2 _ h4; omega
              · omega
            · have := (R5.out.1 _ e2).2; omega) (fun g hg => ⟨⟨fun hm => by
              rcases IN5.out _ hm with h4 | h4
              · exact hg.1.1.1 h4
              · have := hg.2; omega, hg.1.1.2⟩, hg.1.2⟩) (fun g hg => ⟨⟨fun hm => by have := LA5.out.2 _ hm; simp at hg; omega, by have := B5.out.size; simp at hg; omega⟩, fun e2 => by have := (OF5.out _ e2).2; simp at hg; omega⟩)
          have HX := Lib.hid hxs
          have HF := Lib.hid hfin
          have HY1 : ∀ u ∈ [Value.slice ao ny co], u.oneCell' = true := by intro u hu; simp at hu; subst hu; rfl
          clear hxs hfin tA hny
          rw [← HNT.out] at HX HF
          go_wp2_with (at_builtin; refine append_tx rfl (.tmp 60) (.tmp 62) rfl (.slice av nT cv) nT xs rfl HX.out ⟨x5.heap.size, 0, none⟩ 1 1 [.slice ao ny co] rfl rfl (one_new x5 _ _) HY1 (by omega) ?_)
          intro v7 x7 hown7 hg7 hat7
          have TX7 := HF.out v7 x7 hown7 hg7 (by rcases hat7 with h1 | h1; exact .inl h1; exact .inr (by rw [h1]; simp))
          have tg := (Turn.alloc (Value.slice av nT cv).ownBlock.toList x5 (.cells #[.slice ao ny co] 31)).trans (Turn.grown (l := (Value.slice av nT cv).ownBlock.toList) hg7 (fun k hk => .inl (by rw [hk]; simp))) (fun i hi => .inl hi)
          have hown : ∀ g ∈ (Value.slice av nT cv).ownBlock.toList, (g ∉ L' ∧ w.heap.size ≤ g) ∧ (Value.slice ae nT ce).ownBlock ≠ some g := fun g hg => by
            have h1 := R5.out.1 g (Option.mem_toList.1 hg)
            refine ⟨⟨fun hm => ?_, h1.1.1.2⟩, h1.1.2⟩
            rcases IN5.out _ hm with h4 | h4
            · exact h1.1.1.1 h4
            · have := h1.2; omega
          have LA7 := Lib.hid (LA5.out.shift tg (fun g hg => (hown g hg).1.1) (fun hm => by have h1 := (hown _ hm).1.2; have h2 := HTB.out.lt; omega))
          have E7 := Lib.hid (ownsRow_turn E5.out tg (fun g hg hm => (hown g hm).2 hg))
          have B7 := Lib.hid (B5.out.trans (tg.below (fun g hg => (hown g hg).1.2) B5.out.size))
          have SZ7 := Lib.hid (Nat.le_trans (Nat.le_trans hsz4 hsz5) tg.size)
          obtain ⟨a7, c7, hv7, -⟩ := TX7.form
          rw [List.length_append, List.length_singleton, ← HNT.out] at hv7
          subst hv7
          have TX7' := Lib.hid TX7
          clear TX7 tg hown hown7 hg7 hat7 HX HF HY1 R5 B5 LA5 E5 S5 B4 A4 S4 IN5 HNL
          obtain ⟨fl, hfl2⟩ : ∃ n, n = (frs (T ++ [y])).length := ⟨_, rfl⟩
          have HFL := Lib.hid hfl2
          have CR := lg_read LA7.out.1 (segName_len 0)
          rw [oneM_bytes, ← hfl2] at CR
          have HCR := Lib.hid CR
          have hflb : fl ≤ 324 := by rw [hfl2, frs_append, frs_one, List.length_append, frB_length]; have := hfl.out; omega
          clear CR hfl2
          go_wp2_with fail
          refine HCR.out.mono ?_
          rintro e x8 ⟨ar, cr, rfl, -, -, -, hb8⟩
          have t8 := Turn.of_below hb8 []
          have LA8 := Lib.hid (LA7.out.shift t8 (by simp) (by simp))
          have TX8 := Lib.hid ((TX7'.out.imp (Q := fun g => ((g ∉ L' ∧ w.heap.size ≤ g) ∧ (Value.slice ae nT ce).ownBlock ≠ some g) ∧ g < x7.heap.size) (fun g hg hp => ⟨hp, hg⟩)).turn t8 (fun _ _ => by simp))
          have E8 := Lib.hid (ownsRow_turn (ownsRow_turn E7.out t8 (fun _ _ => by simp)) (Turn.alloc [] x8 (.cells #[.int .i64 (fl : Int)] 3)) (fun _ _ => by simp))
          have B8 := Lib.hid (B7.out.trans (hb8.mono B7.out.size))
          have SZ8 := Lib.hid (Nat.le_trans SZ7.out hb8.size)
          have hsz8 := hb8.size
          clear t8 hb8 HCR LA7 TX7' E7 B7
          have HYY : Hid ((x8.alloc (.cells #[.int .i64 (fl : Int)] 3)).cell? ⟨x8.heap.size, 0, none⟩ = some (.int .i64 (fl : Int))) := Lib.hid (by
            rw [cell_of_row _ _ _ _ _ _ (heap_alloc_new x8 (.cells #[.int .i64 (fl : Int)] 3))]; rfl)
          have HEL := Lib.hid (show nT = (endsOf T).length by rw [endsOf_length]; exact HNT.out)
          go_wp2_with (at_builtin; refine append_num rfl (.tmp 69) (.tmp 72) rfl (.slice ae nT ce) (endsOf T) nT HEL.out rfl E8.out x8.heap.size 1 fl rfl HYY.out (by omega) ?_)
          intro v9 x9 hown9 hg9 hat9
          have tg := (Turn.alloc (Value.slice ae nT ce).ownBlock.toList x8 (.cells #[.int .i64 (fl : Int)] 3)).trans (Turn.grown (l := (Value.slice ae nT ce).ownBlock.toList) hg9 (fun k hk => .inl (by rw [hk]; simp))) (fun i hi => .inl hi)
          have LA9 := LA8.out.shift tg (fun g hg => (OF5.out g (Option.mem_toList.1 hg)).1.1) (fun hm => by have h1 := (OF5.out _ (Option.mem_toList.1 hm)).1.2; have h2 := HTB.out.lt; omega)
          have B9 := B8.out.trans (tg.below (fun g hg => (OF5.out _ (Option.mem_toList.1 hg)).1.2) B8.out.size)
          obtain ⟨a9, c9, hv9⟩ := owns_slice hown9
          subst hv9
          have TX9 := (TX8.out.turn tg (fun g hp hm => hp.1.2 (Option.mem_toList.1 hm))).imp (Q := fun g => (g ∉ L' ∧ w.heap.size ≤ g) ∧ (Value.slice a9 (nT + 1) c9).ownBlock ≠ some g) (fun g _ hp => ⟨hp.1.1, fun e2 => by
            rcases hat9 with h1 | h1
            · exact hp.1.2 (by rw [← h1]; exact e2)
            · rw [h1] at e2
              have h2 : x8.heap.size + 1 = g := Option.some.inj e2
              have := hp.2
              omega⟩)
          have K9 : Hid (KeptT w x9 lb d (k + 1) (T ++ [y]) L' (.slice a7 (nT + 1) c7) (.slice a9 (nT + 1) c9)) := Lib.hid ⟨LA9, GE5.out, TX9, by
              rw [endsOf_snoc, List.length_append, List.length_singleton, ← HNT.out, ← HFL.out]; exact hown9, fun g hg => by
              rcases hat9 with h1 | h1
              · exact (OF5.out g (by rw [← h1]; exact hg)).1
              · rw [h1] at hg
                have h2 : x8.heap.size + 1 = g := Option.some.inj hg
                have h3 := B8.out.size
                exact ⟨fun hm => by have := LA8.out.2 _ hm; omega, by omega⟩, by simp; have := HNT.out; omega, fun t ht => by
              rcases List.mem_append.1 ht with h1 | h1
              · exact KP.out.short t h1
              · simp at h1; rw [h1]; exact hy30, fun t ht => by
              rcases List.mem_append.1 ht with h1 | h1
              · exact KP.out.ok t h1
              · simp at h1; rw [h1]; exact HOK.out, B9⟩
          clear LA9 B9 TX9 tg hown9 hg9 hat9 LA8 TX8 E8 B8 KP OF5 GE5 HYY HEL
          go_wp2
          go_roundw
          case rel => exact ⟨k + 1, T ++ [y], L', by omega, by omega, by go_num, K9.out⟩
          case measure => simp [intOf]; omega
      · by_cases hl : k < l0.length
        · have hd8 : decide ((k : Int) < 8) = false := by simp; omega
          go_wp2_with fail
          go_meet
          exact ⟨k, T, L, hk8, KP.out⟩
        · go_wp2_with fail
          go_meet
          exact ⟨k, T, L, hk8, KP.out⟩
  case rest =>
    obtain ⟨k, T, L, hk8, hkp⟩ := hcut
    have KP := Lib.hid hkp
    have hTk := hkp.few
    obtain ⟨av, cv, hv, -⟩ := hkp.row.form
    subst hv
    obtain ⟨ae, ce, hv⟩ := owns_slice hkp.nums
    subst hv
    clear hkp K0 B1
    obtain ⟨nT, hnT⟩ : ∃ n, n = T.length := ⟨_, rfl⟩
    have HNT := Lib.hid hnT
    rw [← hnT] at hTk KP ⊢
    clear hnT
    have hfl : Hid ((frs T).length ≤ 288) := Lib.hid (by have h1 := frs_le KP.out.short; rw [← HNT.out] at h1; omega)
    have CR := lg_read KP.out.log.1 (segName_len 0)
    rw [oneM_bytes] at CR
    have HCR := Lib.hid CR
    clear CR
    go_wp2_with fail
    refine HCR.out.mono ?_
    rintro e x5 ⟨ar, cr, rfl, hs5, -, -, hb5⟩
    obtain ⟨fb, hfb⟩ : ∃ f, f = frs T := ⟨_, rfl⟩
    rw [← hfb] at hs5 ⊢
    have hfbl : fb.length ≤ 288 := by rw [hfb]; exact hfl.out
    have HFB := Lib.hid hfb
    have SF := Lib.hid hs5
    have TL5 := Lib.hid ((KP.out.row.turn (Turn.of_below hb5 []) (fun _ _ => by simp)).tl.2)
    have E5 := Lib.hid (show x5.ownsRow 0 3 1 (.slice ae nT ce) nT (i64l (endsOf T)) by have h1 := ownsRow_turn KP.out.nums (Turn.of_below hb5 []) (fun _ _ => by simp); rw [← HNT.out] at h1; exact h1)
    have B5 := Lib.hid (KP.out.bel.trans (hb5.mono KP.out.bel.size))
    have T5 := Lib.hid (HTB.out.turn (Turn.of_below B5.out []) (by simp))
    have OKT := Lib.hid KP.out.ok
    have SHT := Lib.hid KP.out.short
    obtain ⟨nb, hnb⟩ : ∃ n, n = fb.length := ⟨_, rfl⟩
    obtain ⟨kk, hkk⟩ : ∃ k, k = na % (nb + 1) := ⟨_, rfl⟩
    have hklt : kk < nb + 1 := by rw [hkk]; exact Nat.mod_lt _ (by omega)
    have hm1 : (na : Int) % ((nb : Int) + 1) = (kk : Int) := by rw [hkk]; rfl
    have hm2 : (na : Int).tmod ((nb : Int) + 1) = (kk : Int) := by rw [Int.tmod_eq_emod_of_nonneg (by omega)]; exact hm1
    have hsp := fun wx => slice_front ar nb cr kk (by have := hs5.le.1; rw [← hnb] at this; omega) wx
    have hnz : ((nb : Int) + 1 == 0) = false := by simp; omega
    have hnz1 : ¬ (nb : Int) + 1 = 0 := by omega
    have HNB := Lib.hid hnb
    have hnbl : nb ≤ 288 := by omega
    rw [← hnb]
    clear hs5 hb5 hfb hnb hkk KP HCR
    go_wp2_with fail
    refine (dk_new 1048576 x5).mono ?_
    rintro e x6 ⟨rfl, hd6⟩
    rw [room_big] at hd6
    obtain ⟨gd, hgd⟩ : ∃ d, d = x5.heap.size := ⟨_, rfl⟩
    rw [← hgd] at hd6 ⊢
    have hft : (fb.take kk).length = kk := by rw [List.length_take, ← HNB.out]; omega
    have CA := dk_append_free (n := segName 0) hd6 (segName_len 0) (Turn.refl [] x6) ((SF.out.belowAll hd6.1).front kk) (fun A hA hne => .inl (by have h1 := SF.out; rw [hA] at h1; exact h1.lt (by intro e2; rw [e2] at hne; simp at hne)))
    rw [hft, (app_none (by rw [hft]; unfold rBig; omega)).1, (app_none (by rw [hft]; unfold rBig; omega)).2, ← name0] at CA
    have HCA := Lib.hid CA
    have HFT := Lib.hid hft
    clear CA hd6 hgd hft
    go_wp2_with fail
    refine HCA.out.mono ?_
    rintro e x7 ⟨rfl, hd7⟩
    have D7 := Lib.hid hd7
    clear hd7 HCA hsp hm1 hm2 hnz hnz1 hd0
    go_upto_if 90 with fail
    go_cut [] from 90 to 94 (fun wx => ∃ Mg, Dk x5 wx gd rBig Mg ∧ openAt Mg 0 = 0 ∧ mDel newName Mg = oneS (fb.take kk) 0 false)
    case first =>
      cases a2 with
      | false =>
        go_wp2_with fail
        go_meet
        exact ⟨_, D7.out, (oneS_at _ _ _).1, (oneS_at _ _ _).2.1⟩
      | true =>
        have kc := fun (wx : World) (C : Array Value) (n c : Nat) => Lib.run_convert_bytes_const (P := Tryz.prog) wx 31 5 C n c Tryz.underlying31 Tryz.underlying5
        go_wp2_with fail
        have CH := dk_append_free (n := newName) (bs := tHalf) D7.out newName_len (Turn.alloc [] x7 (.cells #[.int .u8 104, .int .u8 97, .int .u8 108, .int .u8 102] 5 (4, 5))) (Sl.marked x7 #[.int .u8 104, .int .u8 97, .int .u8 108, .int .u8 102] 5 (4, 5) tHalf rfl (by decide)) (fun A hA _ => .inr (by cases hA; exact Nat.le_refl _))
        have hrm : (fb.take kk).length + tHalf.length ≤ rBig := by rw [HFT.out]; unfold rBig tHalf; simp; omega
        rw [(app_new (s := 0) (nm := false) hrm).1, (app_new (s := 0) (nm := false) hrm).2, ← nameN] at CH
        refine CH.mono ?_
        rintro e x8 ⟨rfl, hd8⟩
        have D8 := Lib.hid hd8
        clear hd8 CH hrm kc
        go_wp2_with fail
        go_meet
        exact ⟨_, D8.out, (oneS_left _ _ _ _).1, (oneS_left _ _ _ _).2⟩
    case rest =>
      obtain ⟨Mg, hdg, hat, hdel⟩ := hcut
      obtain ⟨x9, hx9⟩ : ∃ x9, x9 = wc := ⟨_, rfl⟩
      subst hx9
      have DG := Lib.hid hdg
      have HAT := Lib.hid hat
      have HDEL := Lib.hid hdel
      clear hdg hat hdel D7
      have E9 := Lib.hid (ownsRow_turn E5.out (Turn.of_below DG.out.1 []) (fun _ _ => by simp))
      clear E5
      go_upto_block 2 with fail
      go_cut [21] from 95 to 108 (fun v wx => ∃ n : Nat, n ≤ nT ∧ v = .int .i64 (n : Int) ∧ Turn [] x9 wx ∧ (∀ i, i < n → (endsOf T).getD i 0 ≤ kk) ∧ (n = T.length ∨ kk < (frs (T.take (n + 1))).length))
      case first =>
        go_wp2_with fail
        go_loopw [21] (fun v wx => ∃ n : Nat, n ≤ nT ∧ v = .int .i64 (n : Int) ∧ Turn [] x9 wx ∧ ∀ i, i < n → (endsOf T).getD i 0 ≤ kk) (fun v _ => nT - (intOf v).toNat)
        case atStart => exact ⟨0, by omega, rfl, Turn.refl _ _, (by intro i hi; omega)⟩
        case round =>
          obtain ⟨n, hn, rfl, htn, hle⟩ := hrel
          have TN := Lib.hid htn
          have HLE := Lib.hid hle
          clear htn hle
          by_cases hnT : n < nT
          · obtain ⟨ge, rfl, -, hcell⟩ := nums_at (ownsRow_turn E9.out TN.out (fun _ _ => by simp)) hnT
            obtain ⟨q, hq⟩ : ∃ q, q = (endsOf T).getD n 0 := ⟨_, rfl⟩
            rw [← hq] at hcell
            have HQ := Lib.hid hq
            clear hq
            by_cases hqk : q ≤ kk
            · have hq1 : (q : Int) ≤ (kk : Int) := by omega
              go_wp2
              go_roundw
              case rel => exact ⟨n + 1, by omega, by go_num, TN.out, fun i hi => by
                by_cases hin : i = n
                · rw [hin, ← HQ.out]; exact hqk
                · exact HLE.out i (by omega)⟩
              case measure => simp [intOf]; omega
            · have hq1 : ¬ (q : Int) ≤ (kk : Int) := by omega
              have HN2 : Hid (n = T.length ∨ kk < (frs (T.take (n + 1))).length) := Lib.hid (.inr (by rw [← endsOf_at T (by rw [← HNT.out]; exact hnT), ← HQ.out]; omega))
              clear HQ hqk
              go_wp2_with fail
              go_meet
              exact ⟨n, hn, rfl, TN.out, HLE.out, HN2.out⟩
          · have HN2 : Hid (n = T.length ∨ kk < (frs (T.take (n + 1))).length) := Lib.hid (.inl (by rw [← HNT.out]; omega))
            go_wp2_with fail
            go_meet
            exact ⟨n, hn, rfl, TN.out, HLE.out, HN2.out⟩
      case rest =>
        obtain ⟨n, hn, rfl, htn, hle, hn2⟩ := hcut
        have TN := Lib.hid htn
        have HLE := Lib.hid hle
        have HN2 := Lib.hid hn2
        clear htn hle hn2
        have HN1 : Hid ((frs (T.take n)).length ≤ kk) := Lib.hid (by
          cases n with
          | zero => simp [frs_nil]
          | succ m =>
            have h1 := HLE.out m (by omega)
            rw [endsOf_at T (by rw [← HNT.out]; omega)] at h1
            exact h1)
        obtain ⟨U, hU⟩ : ∃ U, U = T.take n := ⟨_, rfl⟩
        have hUl : U.length = n := by rw [hU, List.length_take, ← HNT.out]; omega
        have hUb : (frs U).length ≤ 288 := by rw [hU]; have := HN1.out; omega
        obtain ⟨s, nm, ho⟩ := tear_open (T := T) (n := n) (k := kk) OKT.out HAT.out (by rw [← HFB.out]; exact HDEL.out) (by rw [← HNT.out]; exact hn) HN1.out HN2.out (by rw [← HFB.out]; omega)
        rw [← hU] at ho
        have CO := open_calls (DG.out.turn TN.out) T5.out 0 (by decide) 400 (fun j => by
          rw [HDEL.out]
          have h1 := bytesOf_le (M := oneS (fb.take kk) 0 false) (segName j)
          rw [tot_oneS, HFT.out] at h1
          omega) (by rw [HAT.out]; decide)
        rw [ho, HAT.out] at CO
        have HCO := Lib.hid CO
        have HU := Lib.hid hU
        have OKU : Hid (∀ t ∈ U, okF t = true ∧ t.length ≤ 30) := Lib.hid (fun t ht => by rw [hU] at ht; have h1 := List.mem_of_mem_take ht; exact ⟨OKT.out t h1, SHT.out t h1⟩)
        clear CO ho hU HN1 HN2 HLE
        go_wp2_with fail
        refine HCO.out.mono ?_
        rintro e y1 ⟨hok2, -⟩
        obtain ⟨lb2, rfl, hl2⟩ := hok2 (by trivial)
        have L2 := Lib.hid hl2
        clear hok2 hl2 HCO
        have T1' := L2.out.1
        have HALL := Lib.hid (show ∀ wx, Turn [] y1 wx → Calls Tryz.prog 16 #[.pointer (some ⟨lb2, 0, none⟩)] wx fun e w' => e = .returned (.slice (some ⟨wx.heap.size, 0, none⟩) n n) ∧ Tl w' (some ⟨wx.heap.size, 0, none⟩) n U ∧ Below wx.heap.size wx w' from fun wx tx => by
          have h1 := all_calls (L2.out.turn tx) (fun i hi => by have := (OKU.out _ (List.getElem_mem hi)).2; omega)
          rw [hUl] at h1
          exact h1.mono (fun e w' h2 => ⟨h2.1, h2.2.1.tl.2, h2.2.2⟩))
        have HTLU := Lib.hid (show ∀ wx, Turn [] y1 wx → Tl wx av cv U from fun wx tx => by
          have h1 := (TL5.out.turn (T1'.trans tx (by simp)).belowAll).take n
          rw [← HU.out] at h1
          exact h1)
        have hncv : n ≤ cv := by
          rcases TL5.out with ⟨-, -, h3⟩ | ⟨A, -, h4, -⟩
          · rw [HNT.out, h3] at hn
            simp at hn
            omega
          · rw [← HNT.out] at h4
            omega
        have hst := fun wx => slice_texts av nT cv n hncv wx
        have HEQ := Lib.hid (show ∀ wx a c, Turn [] y1 wx → Tl wx a c U → Calls Tryz.prog 15 #[.slice a n c, .slice av n cv] wx fun e w' => e = .returned (.bool true) ∧ Below wx.heap.size wx w' from fun wx a c tx h => by
          have h1 := eq_calls a c av cv U wx h (HTLU.out wx tx)
          rw [hUl] at h1
          exact h1)
        have HADD := Lib.hid (show ∀ wx, Turn [] y1 wx → Calls Tryz.prog 10 #[.pointer (some ⟨lb2, 0, none⟩), .slice (some ⟨wx.heap.size, 0, none⟩) 1 1] (wx.alloc (.cells #[.int .u8 122] 5 (1, 2))) fun e w' => e = .returned (.int .i64 0) ∧ Lg [] x5 w' lb2 gd rBig 0 (U ++ [tZ]) (oneS (frs (U ++ [tZ])) s nm) from fun wx tx => by
          have h1 := add_at L2.out (tx.trans (Turn.alloc [] wx (.cells #[.int .u8 122] 5 (1, 2))) (by simp)) (some ⟨wx.heap.size, 0, none⟩) 1 tZ (by decide) (Sl.marked wx #[.int .u8 122] 5 (1, 2) tZ rfl (by decide)) (fun A hA => .inr (by cases hA; exact tx.size)) (by rw [(add_one (by omega)).1]; omega) (by omega)
          have hrm : (frs U).length + (frB tZ).length ≤ rBig := by rw [frB_length]; unfold rBig tZ; simp; omega
          rw [(add_one (by omega)).1, (add_one (by omega)).2, (app_one hrm).1, (app_one hrm).2, ← frs_one, ← frs_append] at h1
          exact h1.mono (fun e w' h2 => ⟨h2.1, h2.2.1 rfl⟩))
        have kc := fun (wx : World) (C : Array Value) (n c : Nat) => Lib.run_convert_bytes_const (P := Tryz.prog) wx 31 5 C n c Tryz.underlying31 Tryz.underlying5
        go_upto_region 28 with fail
        go_cut [136] from 114 to 136 (fun v wx => v = .bool false ∧ Lg [] x5 wx lb2 gd rBig 0 (U ++ [tZ]) (oneS (frs (U ++ [tZ])) (frs (U ++ [tZ])).length true))
        case first =>
          go_region_with
            (first
              | (go_at_call 16; ((with_reducible refine (HALL.out y1.drew (Turn.drew [] y1)).mono ?_); rintro e y2 ⟨rfl, htx2, hb2⟩); have TX2 : Hid (Tl y2 (some ⟨y1.heap.size, 0, none⟩) n U) := Lib.hid htx2; have TT2 := Lib.hid ((Turn.drew [] y1).trans (Turn.of_below hb2 []) (by simp)); clear htx2 hb2)
              | (go_at_call 15; ((with_reducible refine (HEQ.out y2 _ _ TT2.out TX2.out).mono ?_); rintro e y3 ⟨rfl, hb3⟩); have TT3 := Lib.hid (TT2.out.trans (Turn.of_below hb3 []) (by simp)); clear hb3)
              | (go_at_call 10; ((with_reducible refine (HADD.out y3 TT3.out).mono ?_); rintro e y4 ⟨rfl, hl4⟩); have L4 := Lib.hid hl4; clear hl4)
              | (go_at_call 13; ((with_reducible refine (force_calls L4.out).mono ?_); rintro e y5 ⟨rfl, hl5⟩); have L5 := Lib.hid hl5; clear hl5))
          go_wp2_with fail
          go_meet
          exact ⟨rfl, by have h1 := L5.out; rw [syn_one] at h1; exact h1⟩
        case rest =>
          clear HALL HTLU HEQ HADD kc
          obtain ⟨rfl, hl5⟩ := hcut
          obtain ⟨y5, hy5⟩ : ∃ y5, y5 = wc := ⟨_, rfl⟩
          subst hy5
          obtain ⟨V, hV⟩ : ∃ V, V = U ++ [tZ] := ⟨_, rfl⟩
          rw [← hV] at hl5
          have hVl : V.length = n + 1 := by rw [hV, List.length_append, hUl]; rfl
          have hVb : (frs V).length ≤ 300 := by
            rw [hV, frs_append, List.length_append, frs_one, frB_length]
            unfold tZ
            simp
            omega
          have OKV : Hid (∀ t ∈ V, okF t = true ∧ t.length ≤ 30) := Lib.hid (fun t ht => by
            rw [hV] at ht
            rcases List.mem_append.1 ht with h1 | h1
            · exact OKU.out t h1
            · simp at h1; rw [h1]; exact ⟨by decide, by decide⟩)
          have hua := unfr_whole (fun t ht => (OKV.out t ht).1)
          have BY := hl5.1.belowAll
          have TY := Lib.hid hl5.tab
          obtain ⟨-, ld5, hd5, -⟩ := hl5.dk
          have CF := Lib.hid (fall_new 0 (by omega) hd5 (sure_one _) (by simp [oneS]))
          have BY5 := Lib.hid BY
          clear hl5 hd5 BY L2 T1'
          go_wp2_with fail
          refine CF.out.mono ?_
          rintro e y6 ⟨bb, rfl, hd6⟩
          have B6 := Lib.hid hd6.1
          have CO := open_calls hd6 TY.out 0 (by decide) 400 (fun j => by
            rw [(oneS_at _ _ _).2.1]
            have h1 := bytesOf_le (M := oneS (frs V) (frs V).length true) (segName j)
            rw [tot_oneS] at h1
            omega) (by rw [(oneS_at _ _ _).1]; decide)
          rw [(open_one (oneS_at _ _ _).1 (oneS_at _ _ _).2.1 (by omega)).1 (by rw [hua]), (oneS_at _ _ _).1, hua] at CO
          have HCO := Lib.hid CO
          clear CO hd6 hua CF
          go_wp2_with fail
          refine HCO.out.mono ?_
          rintro e y7 ⟨hok3, -⟩
          obtain ⟨lb3, rfl, hl7⟩ := hok3 (by trivial)
          have L7 := Lib.hid hl7
          have B7 := Lib.hid hl7.1.belowAll
          clear hok3 hl7 HCO
          have BW := Lib.hid (B5.out.trans ((BY5.out.trans (B7.out.mono BY5.out.size)).mono B5.out.size))
          have HALL3 := Lib.hid (show ∀ wx, Turn [] y7 wx → Calls Tryz.prog 16 #[.pointer (some ⟨lb3, 0, none⟩)] wx fun e w' => e = .returned (.slice (some ⟨wx.heap.size, 0, none⟩) (n + 1) (n + 1)) ∧ Txs w' (fun k => wx.heap.size ≤ k ∧ k < w'.heap.size) (.slice (some ⟨wx.heap.size, 0, none⟩) (n + 1) (n + 1)) V ∧ Turn [] wx w' from fun wx tx => by
            have h1 := all_calls (L7.out.turn tx) (fun i hi => by have := (OKV.out _ (List.getElem_mem hi)).2; omega)
            rw [hVl] at h1
            exact h1.mono (fun e w' h2 => ⟨h2.1, h2.2.1.imp (fun k hk hp => ⟨hp, hk⟩), Turn.of_below h2.2.2 []⟩))
          have HTL7 := Lib.hid (show Tl y7 av cv U by
            have h1 := (TL5.out.turn (BY5.out.trans (B7.out.mono BY5.out.size))).take n
            rw [← HU.out] at h1
            exact h1)
          have HEQ3 := Lib.hid (show ∀ wx a c a' c', Tl wx a c V → Tl wx a' c' V → Calls Tryz.prog 15 #[.slice a (n + 1) c, .slice a' (n + 1) c'] wx fun e w' => e = .returned (.bool true) ∧ Below wx.heap.size wx w' from fun wx a c a' c' h h' => by
            have h1 := eq_calls a c a' c' V wx h h'
            rw [hVl] at h1
            exact h1)
          have kc := fun (wx : World) (C : Array Value) (n c : Nat) => Lib.run_convert_bytes_const (P := Tryz.prog) wx 31 5 C n c Tryz.underlying31 Tryz.underlying5
          have kf := fun (wx : World) (b : Nat) (h : wx.heap[b]? = some (.cells #[.int .u8 122] 5)) => run_frz h
          have hn1 : n ≤ 1000 := by omega
          have HVE : Hid (V = U ++ [[122]]) := Lib.hid hV
          clear hV hVb hUb TY BY5 B5 B6 B7 TL5 L7 OKV OKU HU HNT
          go_upto_region 31 with fail
          refine wp_region_any (by kernel_rfl) ?_
          refine any_take (i := 0) (d := some 143) (v := ?_) rfl (by rfl) (by kernel_rfl) (by kernel_rfl) (by kernel_rfl) (fun _ _ _ h => h) (by rfl) ?_ ?_
          rotate_left
          · intro wz
            go_simp
            try with_reducible rfl
          simp only [Act.put, List.setIfInBounds_toArray, List.set_cons_zero, List.set_cons_succ]
          refine any_take (i := 1) (d := some 144) (v := ?_) rfl (by rfl) (by kernel_rfl) (by kernel_rfl) (by kernel_rfl) (fun _ _ _ h => h) (by rfl) ?_ ?_
          rotate_left
          · intro wz
            go_simp
            try with_reducible rfl
          simp only [Act.put, List.setIfInBounds_toArray, List.set_cons_zero, List.set_cons_succ]
          refine any_take (i := 2) (d := some 145) (v := ?_) rfl (by rfl) (by kernel_rfl) (by kernel_rfl) (by kernel_rfl) (fun _ _ _ h => h) (by rfl) ?_ ?_
          rotate_left
          · intro wz
            go_simp
            try with_reducible rfl
          simp only [Act.put, List.setIfInBounds_toArray, List.set_cons_zero, List.set_cons_succ]
          refine any_take (i := 3) (d := some 146) (v := ?_) rfl (by rfl) (by kernel_rfl) (by kernel_rfl) (by kernel_rfl) (fun _ _ _ h => h) (by rfl) ?_ ?_
          rotate_left
          · intro wz
            go_simp
            try with_reducible rfl
          simp only [Act.put, List.setIfInBounds_toArray, List.set_cons_zero, List.set_cons_succ]
          refine any_take (i := 5) (d := some 148) (v := ?_) rfl (by rfl) (by kernel_rfl) (by kernel_rfl) (by kernel_rfl) (fun _ _ _ h => h) (by rfl) ?_ ?_
          rotate_left
          · intro wz
            go_simp
            try with_reducible rfl
          simp only [Act.put, List.setIfInBounds_toArray, List.set_cons_zero, List.set_cons_succ]
          refine any_take (i := 6) (d := some 149) (v := ?_) rfl (by rfl) (by kernel_rfl) (by kernel_rfl) (by kernel_rfl) (fun _ _ _ h => h) (by rfl) ?_ ?_
          rotate_left
          · intro wz
            go_simp
            try with_reducible rfl
          simp only [Act.put, List.setIfInBounds_toArray, List.set_cons_zero, List.set_cons_succ]
          refine any_take (i := 7) (d := some 150) (v := ?_) rfl (by rfl) (by kernel_rfl) (by kernel_rfl) (by kernel_rfl) (fun _ _ _ h => h) (by rfl) ?_ ?_
          rotate_left
          · intro wz
            go_simp
            try with_reducible rfl
          simp only [Act.put, List.setIfInBounds_toArray, List.set_cons_zero, List.set_cons_succ]
          rename_i KK hKK
          refine torn_end (y := y7) (U := U) (V := V) (n := n) (n1 := n + 1) (cv := cv) (lb := lb3) (av := av) (ds := []) (g := fun _ => 0) rfl rfl (by kernel_rfl) (by kernel_rfl) ⟨_, rfl, rfl, rfl, rfl⟩ ⟨_, rfl, rfl, rfl, rfl⟩ ⟨_, rfl, rfl, rfl, rfl⟩ ⟨_, rfl, rfl, rfl, rfl⟩ ⟨_, rfl, rfl, rfl, rfl⟩ ⟨_, rfl, rfl, rfl, rfl⟩ ⟨_, rfl, rfl, rfl, rfl⟩ ⟨_, rfl, rfl, rfl, rfl⟩ ⟨_, rfl, rfl, rfl, rfl⟩ hUl HVE.out rfl hn1 HTL7.out HALL3.out HEQ3.out ?_ (by decide) ?_
          · intro a' w' hm hd h6 t
            refine hKK _ _ ?_
            apply wp_ret
            show bodyPost Tryz.prog Tryz.f5 (fun e w2 => e = Ending.returned (.bool true) ∧ Below w.heap.size w w2) .ret a' w'
            refine bodyPost_ret (results_tmp rfl _ _ _) hd ?_
            have h7 : a'.tmps.getD 6 undef = .bool true := h6
            rw [h7]
            exact ⟨rfl, BW.out.trans (t.belowAll.mono BW.out.size)⟩
          · exact ⟨rfl, of_decide_eq_true (by kernel_rfl), rfl, rfl, rfl, rfl, rfl, Turn.drew [] _, no_of (by kernel_rfl), no_of (by kernel_rfl), no_of (by kernel_rfl), no_of (by kernel_rfl), no_of (by kernel_rfl), no_of (by kernel_rfl), no_of (by kernel_rfl), no_of (by kernel_rfl), no_of (by kernel_rfl), no_of (by kernel_rfl), no_of (by kernel_rfl)⟩
end Go.Proofs.YtjdpglmphacfjaaGreatDoor
