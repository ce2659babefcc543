/-
  Ls0
-/
import Derived.Test.YtlmefpanoimkcaaGreatRcp
namespace Go.Proofs.YtlmefpanoimkcaaGreat
open Go.RowKit Go.Proofs.YtlmefpanoimkcaaGreat.V
def cutM (m : MsgV) : MsgV := { m with queue := cutN m.queue 10, body := cutN m.body 62 }
def cutW (x : BrV) : BrV := { x with puts := (x.puts.take 12).map cutP }
def cutPd (p : PendV) : PendV := { p with parts := p.parts.take 9 }
def cutS (s : StV) : StV := { s with ms := (s.ms.take 74).map cutM, waits := (s.waits.take 20).map cutW, ends := s.ends.take 30, open_ := (s.open_.take 20).map cutPd, noes := (s.noes.take 20).map cutPd }
def midF {α : Type} (f : α → α) (l : List α) (k : Nat) : List α := (l.take k).map f ++ l.drop k
theorem midF_len {α : Type} (f : α → α) (l : List α) (k : Nat) : (midF f l k).length = l.length := by
 unfold midF; rw [List.length_append, List.length_map, List.length_take, List.length_drop]; omega
theorem midF_at {α : Type} {f : α → α} {l : List α} {k : Nat} {m : α} (h : l[k]? = some m) : (midF f l k)[k]? = some m := by
 unfold midF
 have hk := (List.getElem?_eq_some_iff.1 h).1
 rw [List.getElem?_append_right (by rw [List.length_map, List.length_take]; omega), List.length_map, List.length_take, Nat.min_eq_left (by omega), Nat.sub_self, List.getElem?_drop, Nat.add_zero]
 exact h
theorem midF_next {α : Type} {f : α → α} {l : List α} {k : Nat} {m : α} (h : l[k]? = some m) : midF f l (k + 1) = (midF f l k).set k (f m) := by
 unfold midF
 have hk := (List.getElem?_eq_some_iff.1 h).1
 rw [List.take_add_one, h, List.map_append, drop_cons h]
 rw [List.set_append_right _ _ (by rw [List.length_map, List.length_take]; omega), List.length_map, List.length_take, Nat.min_eq_left (by omega), Nat.sub_self]
 simp
theorem midF_zero {α : Type} (f : α → α) (l : List α) : midF f l 0 = l := by unfold midF; simp
theorem midF_end {α : Type} {f : α → α} {l : List α} {k : Nat} (h : l.length ≤ k) : midF f l k = l.map f := by
 unfold midF; rw [List.take_of_length_le h, List.drop_eq_nil_of_le h, List.append_nil]
theorem flat_take {α : Type} {n : Nat} {f : α → List Value} (hf : ∀ x, (f x).length = n) : ∀ (l : List α) (k : Nat), (l.flatMap f).take (k * n) = (l.take k).flatMap f
 | [], k => by simp
 | y :: l, 0 => by simp
 | y :: l, k + 1 => by
  rw [List.flatMap_cons, List.take_succ_cons, List.flatMap_cons, ← flat_take hf l k, List.take_append, hf, Nat.add_mul, Nat.one_mul, List.take_of_length_le (by rw [hf]; omega), Nat.add_sub_cancel]
theorem row_front {w : World} {B : Nat} {e : TypeId} {z n k c : Nat} {ao : Option Addr} {xs : List Value} (h : w.ownsRow B e z (.slice ao n c) n xs) (hk : k ≤ n) : w.ownsRow B e z (.slice ao k c) k (xs.take (k * z)) := by
 obtain ⟨h1, h2⟩ := h
 have hz : k * z ≤ n * z := Nat.mul_le_mul_right _ hk
 refine ⟨by rw [List.length_take]; omega, ?_⟩
 rcases h2 with ⟨h3, rfl⟩ | ⟨g, cap, cur, h3, h4, h5, h6, h7, h8, h9⟩
 · injection h3 with e1 e2 e3
   have : k = 0 := by omega
   subst this e1 e3
   exact .inl ⟨rfl, rfl⟩
 · injection h3 with e1 e2 e3
   subst e1 e3
   exact .inr ⟨g, c, cur, rfl, h4, h5, by omega, h7, h8, by rw [← h9, List.take_take, Nat.min_eq_left hz]⟩
theorem rows_front {α : Type} {f : α → List Value} {w : World} {B : Nat} {e : TypeId} {z c : Nat} {ao : Option Addr} {l : List α} (hf : ∀ x, (f x).length = z) (h : w.ownsRow B e z (.slice ao l.length c) l.length (l.flatMap f)) {k : Nat} (hk : k ≤ l.length) :
 w.ownsRow B e z (.slice ao (l.take k).length c) (l.take k).length ((l.take k).flatMap f) := by
 have := row_front h hk
 rw [flat_take hf] at this
 rwa [List.length_take, Nat.min_eq_left hk]
structure Lb (wi w0 w : World) (q : Nat) (s : StV) (a : Ads) (LW : List (Lay BrV)) (LO LN : List (Lay PendV)) : Prop where
 eld : Turn [] wi w0
 base : Turn [] w0 w
 lo : w0.heap.size ≤ q
 head : w.heap[q]? = some (.cells (s.cells a) 27)
 vw : LW.map Lay.v = s.waits
 vo : LO.map Lay.v = s.open_
 vn : LN.map Lay.v = s.noes
 ms : w.ownsRow w0.heap.size 49 6 (.slice a.m s.ms.length a.cm) s.ms.length (s.ms.flatMap msgC)
 ws : w.ownsRow w0.heap.size 81 2 (.slice a.w LW.length a.cw) LW.length (LW.flatMap brC)
 es : w.ownsRow w0.heap.size 61 2 (.slice a.e s.ends.length a.ce) s.ends.length (s.ends.flatMap endC)
 os : w.ownsRow w0.heap.size 65 2 (.slice a.o LO.length a.co) LO.length (LO.flatMap pendC)
 ns : w.ownsRow w0.heap.size 65 2 (.slice a.n LN.length a.cn) LN.length (LN.flatMap pendC)
 on : a.o = none ∨ a.o ≠ a.n
 puts : ∀ x ∈ LW, Ps wi x.ao x.c x.v.puts ∨ w.ownsRow w0.heap.size 45 2 (putsRow x) x.v.puts.length (pcells x.v.puts)
 parts : ∀ x ∈ LO ++ LN, Il wi x.ao x.c x.v.parts ∨ w.ownsRow w0.heap.size 3 1 (partsRow x) x.v.parts.length (i64s x.v.parts)
theorem Lb.lens {wi w0 w : World} {q : Nat} {s : StV} {a : Ads} {LW : List (Lay BrV)} {LO LN : List (Lay PendV)} (h : Lb wi w0 w q s a LW LO LN) : LW.length = s.waits.length ∧ LO.length = s.open_.length ∧ LN.length = s.noes.length :=
 ⟨by rw [← h.vw, List.length_map], by rw [← h.vo, List.length_map], by rw [← h.vn, List.length_map]⟩
theorem Lb.still {wi w0 w w1 : World} {q : Nat} {s : StV} {a : Ads} {LW : List (Lay BrV)} {LO LN : List (Lay PendV)} (h : Lb wi w0 w q s a LW LO LN) (t : Turn [] w w1) : Lb wi w0 w1 q s a LW LO LN :=
 ⟨h.eld, h.base.trans t, h.lo, t.heap h.head, h.vw, h.vo, h.vn, ownsRow_turn h.ms t, ownsRow_turn h.ws t, ownsRow_turn h.es t, ownsRow_turn h.os t, ownsRow_turn h.ns t, h.on,
  fun x hx => (h.puts x hx).imp id (fun r => ownsRow_turn r t), fun x hx => (h.parts x hx).imp id (fun r => ownsRow_turn r t)⟩
theorem lb_row {w : World} {q i : Nat} {cs : Array Value} {B : Nat} {e : TypeId} {z n : Nat} {v : Value} {xs : List Value} (h : w.ownsRow B e z v n xs) (hb : w.heap[q]? = some (.cells cs 27)) (hne : e ≠ 27) (u : Value) : (w.setCell ⟨q, i, none⟩ u).ownsRow B e z v n xs := row_store h hb hne u
theorem Lb.cut {wi w0 w : World} {q : Nat} {s : StV} {a : Ads} {LW : List (Lay BrV)} {LO LN : List (Lay PendV)} (h : Lb wi w0 w q s a LW LO LN) (i : Nat) (u : Value) (s' : StV) (LW' : List (Lay BrV)) (LO' LN' : List (Lay PendV))
 (hc : (s.cells a).setIfInBounds i u = s'.cells a) (k1 : ∃ k, k ≤ s.ms.length ∧ s'.ms = s.ms.take k) (k2 : ∃ k, k ≤ s.ends.length ∧ s'.ends = s.ends.take k) (k3 : ∃ k, k ≤ LW.length ∧ LW' = LW.take k) (k4 : ∃ k, k ≤ LO.length ∧ LO' = LO.take k) (k5 : ∃ k, k ≤ LN.length ∧ LN' = LN.take k)
 (vw : LW'.map Lay.v = s'.waits) (vo : LO'.map Lay.v = s'.open_) (vn : LN'.map Lay.v = s'.noes) : Lb wi w0 (w.setCell ⟨q, i, none⟩ u) q s' a LW' LO' LN' := by
 obtain ⟨m1, q1, e1⟩ := k1
 obtain ⟨m2, q2, e2⟩ := k2
 obtain ⟨m3, q3, e3⟩ := k3
 obtain ⟨m4, q4, e4⟩ := k4
 obtain ⟨m5, q5, e5⟩ := k5
 refine ⟨h.eld, h.base.trans (Turn.setCell (l := [q]) w (by simp) u) (fun i hi => .inr (by rw [show i = q by simpa using hi]; exact h.lo)), h.lo, by rw [← hc]; exact block_set h.head _, vw, vo, vn, ?_, ?_, ?_, ?_, ?_, h.on, fun x hx => ?_, fun x hx => ?_⟩
 · rw [e1]; exact lb_row (e := 49) (rows_front (f := msgC) (z := 6) (fun _ => rfl) h.ms q1) h.head (by decide) _
 · rw [e3]; exact lb_row (e := 81) (rows_front (f := brC) (z := 2) (fun _ => rfl) h.ws q3) h.head (by decide) _
 · rw [e2]; exact lb_row (e := 61) (rows_front (f := endC) (z := 2) (fun _ => rfl) h.es q2) h.head (by decide) _
 · rw [e4]; exact lb_row (e := 65) (rows_front (f := pendC) (z := 2) (fun _ => rfl) h.os q4) h.head (by decide) _
 · rw [e5]; exact lb_row (e := 65) (rows_front (f := pendC) (z := 2) (fun _ => rfl) h.ns q5) h.head (by decide) _
 · rw [e3] at hx
   exact (h.puts x (List.mem_of_mem_take hx)).imp id (fun r => lb_row r h.head (by decide) _)
 · rw [e4, e5] at hx
   have hx' : x ∈ LO ++ LN := by
    rcases List.mem_append.1 hx with hx | hx
    · exact List.mem_append.2 (.inl (List.mem_of_mem_take hx))
    · exact List.mem_append.2 (.inr (List.mem_of_mem_take hx))
   exact (h.parts x hx').imp id (fun r => lb_row r h.head (by decide) _)
theorem lb_base {w0 w w1 : World} {g : Nat} (h : Turn [] w0 w) (t : Turn [g] w w1) (hg : w0.heap.size ≤ g) : Turn [] w0 w1 :=
 h.trans t (fun i hi => .inr (by have : i = g := by simpa using hi
                                 rw [this]; exact hg))
theorem lb_typed {w : World} {g : Nat} {cs : Array Value} {T : TypeId} (hg : w.heap[g]? = some (.cells cs T)) : ∀ k ∈ [g], ∃ cs fr, w.heap[k]? = some (.cells cs T fr) := fun k hk => by
 have : k = g := by simpa using hk
 rw [this]; exact ⟨_, _, hg⟩
theorem Lb.inMs {wi w0 w w1 : World} {q g : Nat} {s : StV} {a : Ads} {LW : List (Lay BrV)} {LO LN : List (Lay PendV)} (h : Lb wi w0 w q s a LW LO LN) {M : List MsgV} (hl : M.length = s.ms.length) (t : Turn [g] w w1) {cs : Array Value} (hg : w.heap[g]? = some (.cells cs 49)) (hlo : w0.heap.size ≤ g)
 (hr : w1.ownsRow w0.heap.size 49 6 (.slice a.m M.length a.cm) M.length (M.flatMap msgC)) : Lb wi w0 w1 q { s with ms := M } a LW LO LN := by
 have ht := lb_typed hg
 refine ⟨h.eld, lb_base h.base t hlo, h.lo, ?_, h.vw, h.vo, h.vn, hr, ownsRow_keep h.ws t ht (by decide), ownsRow_keep h.es t ht (by decide), ownsRow_keep h.os t ht (by decide), ownsRow_keep h.ns t ht (by decide), h.on, fun x hx => (h.puts x hx).imp id (fun r => ownsRow_keep r t ht (by decide)), fun x hx => (h.parts x hx).imp id (fun r => ownsRow_keep r t ht (by decide))⟩
 have := heap_keep h.head t ht (by decide)
 unfold StV.cells at this ⊢
 dsimp only
 rw [hl]
 exact this
theorem Lb.inWs {wi w0 w w1 : World} {q g : Nat} {s : StV} {a : Ads} {LW LW' : List (Lay BrV)} {LO LN : List (Lay PendV)} (h : Lb wi w0 w q s a LW LO LN) (hl : LW'.length = LW.length) (t : Turn [g] w w1) {cs : Array Value} (hg : w.heap[g]? = some (.cells cs 81)) (hlo : w0.heap.size ≤ g)
 (hr : w1.ownsRow w0.heap.size 81 2 (.slice a.w LW'.length a.cw) LW'.length (LW'.flatMap brC)) (hp : ∀ x ∈ LW', x ∈ LW ∨ w1.ownsRow w0.heap.size 45 2 (putsRow x) x.v.puts.length (pcells x.v.puts)) : Lb wi w0 w1 q { s with waits := LW'.map Lay.v } a LW' LO LN := by
 have ht := lb_typed hg
 refine ⟨h.eld, lb_base h.base t hlo, h.lo, ?_, rfl, h.vo, h.vn, ownsRow_keep h.ms t ht (by decide), hr, ownsRow_keep h.es t ht (by decide), ownsRow_keep h.os t ht (by decide), ownsRow_keep h.ns t ht (by decide), h.on, fun x hx => ?_, fun x hx => (h.parts x hx).imp id (fun r => ownsRow_keep r t ht (by decide))⟩
 · have := heap_keep h.head t ht (by decide)
   unfold StV.cells at this ⊢
   dsimp only
   rw [List.length_map, hl, h.lens.1]
   exact this
 · rcases hp x hx with r | r
   · exact (h.puts x r).imp id (fun r => ownsRow_keep r t ht (by decide))
   · exact .inr r
theorem apart_rows {w : World} {B : Nat} {a b : Option Addr} {n c : Nat} {e : TypeId} {z : Nat} {xs : List Value} {g : Nat} (h1 : w.ownsRow B e z (.slice a n c) n xs) (ha : b = some ⟨g, 0, none⟩) (hn : a = none ∨ a ≠ b) : ∀ k ∈ (Value.slice a n c).ownBlock.toList, k ≠ g := by
 intro k hk e1
 subst e1
 rcases h1.2 with ⟨e2, _⟩ | ⟨g', cap, cur, e2, _⟩
 · injection e2 with e3
   subst e3
   simp [Value.ownBlock] at hk
 · injection e2 with e3
   subst e3
   have : k = g' := by simpa [Value.ownBlock] using hk
   subst this
   rcases hn with hn | hn
   · cases hn
   · exact hn ha.symm
theorem Lb.inOs {wi w0 w w1 : World} {q g : Nat} {s : StV} {a : Ads} {LW : List (Lay BrV)} {LO LO' LN : List (Lay PendV)} (h : Lb wi w0 w q s a LW LO LN) (hl : LO'.length = LO.length) (t : Turn [g] w w1) {cs : Array Value} (hg : w.heap[g]? = some (.cells cs 65)) (hlo : w0.heap.size ≤ g) (ha : a.o = some ⟨g, 0, none⟩)
 (hr : w1.ownsRow w0.heap.size 65 2 (.slice a.o LO'.length a.co) LO'.length (LO'.flatMap pendC)) (hp : ∀ x ∈ LO', x ∈ LO ∨ w1.ownsRow w0.heap.size 3 1 (partsRow x) x.v.parts.length (i64s x.v.parts)) : Lb wi w0 w1 q { s with open_ := LO'.map Lay.v } a LW LO' LN := by
 have ht := lb_typed hg
 have hon : a.n = none ∨ a.n ≠ a.o := by
  rcases h.on with e | e
  · rw [e] at ha; cases ha
  · exact .inr (fun e1 => e e1.symm)
 refine ⟨h.eld, lb_base h.base t hlo, h.lo, ?_, h.vw, rfl, h.vn, ownsRow_keep h.ms t ht (by decide), ownsRow_keep h.ws t ht (by decide), ownsRow_keep h.es t ht (by decide), hr, ownsRow_turn h.ns t (fun k hk hm => apart_rows h.ns ha hon k (by simpa using hk) (by simpa using hm)), h.on, fun x hx => (h.puts x hx).imp id (fun r => ownsRow_keep r t ht (by decide)), fun x hx => ?_⟩
 · have := heap_keep h.head t ht (by decide)
   unfold StV.cells at this ⊢
   dsimp only
   rw [List.length_map, hl, h.lens.2.1]
   exact this
 · rcases List.mem_append.1 hx with hx | hx
   · rcases hp x hx with r | r
     · exact (h.parts x (List.mem_append.2 (.inl r))).imp id (fun r => ownsRow_keep r t ht (by decide))
     · exact .inr r
   · exact (h.parts x (List.mem_append.2 (.inr hx))).imp id (fun r => ownsRow_keep r t ht (by decide))
theorem Lb.inNs {wi w0 w w1 : World} {q g : Nat} {s : StV} {a : Ads} {LW : List (Lay BrV)} {LO LN LN' : List (Lay PendV)} (h : Lb wi w0 w q s a LW LO LN) (hl : LN'.length = LN.length) (t : Turn [g] w w1) {cs : Array Value} (hg : w.heap[g]? = some (.cells cs 65)) (hlo : w0.heap.size ≤ g) (ha : a.n = some ⟨g, 0, none⟩)
 (hr : w1.ownsRow w0.heap.size 65 2 (.slice a.n LN'.length a.cn) LN'.length (LN'.flatMap pendC)) (hp : ∀ x ∈ LN', x ∈ LN ∨ w1.ownsRow w0.heap.size 3 1 (partsRow x) x.v.parts.length (i64s x.v.parts)) : Lb wi w0 w1 q { s with noes := LN'.map Lay.v } a LW LO LN' := by
 have ht := lb_typed hg
 refine ⟨h.eld, lb_base h.base t hlo, h.lo, ?_, h.vw, h.vo, rfl, ownsRow_keep h.ms t ht (by decide), ownsRow_keep h.ws t ht (by decide), ownsRow_keep h.es t ht (by decide), ownsRow_turn h.os t (fun k hk hm => apart_rows h.os ha h.on k (by simpa using hk) (by simpa using hm)), hr, h.on, fun x hx => (h.puts x hx).imp id (fun r => ownsRow_keep r t ht (by decide)), fun x hx => ?_⟩
 · have := heap_keep h.head t ht (by decide)
   unfold StV.cells at this ⊢
   dsimp only
   rw [List.length_map, hl, h.lens.2.2]
   exact this
 · rcases List.mem_append.1 hx with hx | hx
   · exact (h.parts x (List.mem_append.2 (.inl hx))).imp id (fun r => ownsRow_keep r t ht (by decide))
   · rcases hp x hx with r | r
     · exact (h.parts x (List.mem_append.2 (.inr r))).imp id (fun r => ownsRow_keep r t ht (by decide))
     · exact .inr r
theorem Lb.past {wi w0 w w1 : World} {q g : Nat} {s : StV} {a : Ads} {LW : List (Lay BrV)} {LO LN : List (Lay PendV)} (h : Lb wi w0 w q s a LW LO LN) (t : Turn [g] w w1) {cs : Array Value} (hg : w.heap[g]? = some (.cells cs 27)) (hlo : w0.heap.size ≤ g) (hne : q ≠ g) : Lb wi w0 w1 q s a LW LO LN := by
 have ht := lb_typed hg
 exact ⟨h.eld, lb_base h.base t hlo, h.lo, t.heap h.head (by simpa using hne), h.vw, h.vo, h.vn, ownsRow_keep h.ms t ht (by decide), ownsRow_keep h.ws t ht (by decide), ownsRow_keep h.es t ht (by decide), ownsRow_keep h.os t ht (by decide), ownsRow_keep h.ns t ht (by decide), h.on, fun x hx => (h.puts x hx).imp id (fun r => ownsRow_keep r t ht (by decide)), fun x hx => (h.parts x hx).imp id (fun r => ownsRow_keep r t ht (by decide))⟩
end Go.Proofs.YtlmefpanoimkcaaGreat
