/-
  Of the texts Gw Bo Bl Open13 Sf BagNil SBagI SBagQ SRow2, in build order, each as it was built alone.
-/
import Derived.Test.YtjmainefmiefcaaGreatPkAC
import Derived.BigQuiet
import Derived.Deep.QuietTactic
import Derived.Test.YtjmainefmiefcaaGreatPkAA
import Derived.Test.YtjmainefmiefcaaGreatChecked
import Derived.ProofKit
import Derived.OpenShut
import Derived.Deep.Slices
import Derived.Deep.Grids
import Derived.Deep.Strs
import Derived.Lib.SmallJoins
import Derived.Recover
import Derived.Defers
import Derived.Deep.RegionHeld3
import Derived.Laws.CopyRow
import Derived.Lib.Overlaps
import Derived.Lib.AppendZerosOnto

/-
  The law's own list of those who go on, as cells.
-/
namespace Go.Proofs.YtjmainefmiefcaaGreat
open Go.RowKit

section
variable {P : Program} {md : Region.Mode} {ops : Array Oper} {Q : Exit → Act → World → Prop} {S1 S2 : World → Prop} {late : List Nat}
/-- One of the two that come up. -/
theorem Pq.two {i j k : Nat} {oi oj : Oper} {L : Array Bool} {a : Act} {w : World} (hr : Region.ready md ops L = [i, j]) (hi : ops[i]? = some oi) (hj : ops[j]? = some oj)
    (h1 : ∀ K : Act → World → Prop, (∀ b x, S1 x → (i ∈ late ∨ (S2 w → S2 x)) → Pq P md ops Q S1 S2 late k (L.setIfInBounds i true) b x → K b x) → if Region.wanted oi (yielded ops a.tmps) = true then Oper.wp P oi a w K Q else K (a.put oi.dst undef) w)
    (h2 : ∀ K : Act → World → Prop, (∀ b x, S1 x → (j ∈ late ∨ (S2 w → S2 x)) → Pq P md ops Q S1 S2 late k (L.setIfInBounds j true) b x → K b x) → if Region.wanted oj (yielded ops a.tmps) = true then Oper.wp P oj a w K Q else K (a.put oj.dst undef) w) :
    Pq P md ops Q S1 S2 late (k + 1) L a w := by
  refine ⟨fun h0 => (by rw [hr] at h0; cases h0), fun m hm => ?_⟩
  rw [hr] at hm
  rcases List.mem_cons.1 hm with e | hm
  · subst e
    exact wpOp_step hi (fun K hK => h1 K (fun b x h1 h2 hP => hK b x ⟨⟨h1, h2⟩, hP⟩))
  · have e : m = j := by simpa using hm
    subst e
    exact wpOp_step hj (fun K hK => h2 K (fun b x h1 h2 hP => hK b x ⟨⟨h1, h2⟩, hP⟩))
end


def gc (t : Int) (g : Gn) : List Value := [.int .i64 g.1.tid, g.2, .int .i64 g.1.n, .int .i64 (t - g.1.heard)]

theorem gc_len (t : Int) (g : Gn) : (gc t g).length = 4 := rfl

/-- The list: a row of the law's own; its slices' rows, each for itself. -/
structure Gw (w : World) (wl : List Nat) (t : Int) (vw : Value) (G : List Gn) : Prop where
  row : w.ownsRow 0 34 4 vw G.length (G.flatMap (gc t))
  rows : ∀ g ∈ G, w.ownsRow 0 28 2 g.2 g.1.puts.length (pcells g.1.puts)
  sep : G.Pairwise fun g h => ∀ k, g.2.ownBlock = some k → h.2.ownBlock ≠ some k
  hw : ∀ k, vw.ownBlock = some k → k ∈ wl
  hrow : ∀ g ∈ G, ∀ k, g.2.ownBlock = some k → k ∈ wl

theorem Gw.turn {l : List Nat} {w w' : World} {wl : List Nat} {t : Int} {vw : Value} {G : List Gn} (h : Gw w wl t vw G) (tt : Turn l w w') (hl : ∀ k ∈ l, k ∉ wl) : Gw w' wl t vw G :=
  ⟨ownsRow_turn h.row tt (fun k hk e => hl _ e (h.hw k hk)), fun g hg => ownsRow_turn (h.rows g hg) tt (fun k hk e => hl _ e (h.hrow g hg k hk)), h.sep, h.hw, h.hrow⟩

theorem Gw.nil (w : World) (t : Int) : Gw w [] t (.slice none 0 0) [] := ⟨World.ownsRow_nil _ _ _ _, by simp, .nil, (by intro k hk; cases hk), by simp⟩

/-- Nothing but what there is. -/
theorem Gw.tight {w : World} {wl : List Nat} {t : Int} {vw : Value} {G : List Gn} (h : Gw w wl t vw G) : Gw w (wl.filter fun k => decide (k < w.heap.size)) t vw G :=
  ⟨h.row, h.rows, h.sep, fun k hk => by
    obtain ⟨cs, hc⟩ := row_block h.row hk
    exact List.mem_filter.2 ⟨h.hw k hk, decide_eq_true (lt_of_heap hc)⟩, fun g hg k hk => by
    obtain ⟨cs, hc⟩ := row_block (h.rows g hg) hk
    exact List.mem_filter.2 ⟨h.hrow g hg k hk, decide_eq_true (lt_of_heap hc)⟩⟩

theorem row_slice {w : World} {base : Nat} {e : TypeId} {size : Nat} {v : Value} {n : Nat} {xs : List Value} (h : w.ownsRow base e size v n xs) : ∃ ao c, v = .slice ao n c := by
  rcases h.2 with ⟨rfl, h0⟩ | ⟨g, cap, cur, rfl, -⟩
  · exact ⟨none, 0, by rw [h0]⟩
  · exact ⟨_, cap, rfl⟩

theorem row_addr {w : World} {base : Nat} {e : TypeId} {size : Nat} {ao : Option Addr} {m c n : Nat} {xs : List Value} (h : w.ownsRow base e size (.slice ao m c) n xs) (hn : 0 < n) : ∃ g, ao = some ⟨g, 0, none⟩ := by
  rcases h.2 with ⟨e, h0⟩ | ⟨g, cap, cur, e, -⟩
  · omega
  · injection e with e1
    exact ⟨g, e1⟩

theorem row_none {w : World} {base : Nat} {e : TypeId} {size : Nat} {m c n : Nat} {xs : List Value} (h : w.ownsRow base e size (.slice none m c) n xs) : n = 0 ∧ m = 0 ∧ c = 0 := by
  rcases h.2 with ⟨e, h0⟩ | ⟨g, cap, cur, e, -⟩
  · injection e with e1 e2 e3
    exact ⟨h0, e2, e3⟩
  · injection e with e1
    cases e1

theorem row_cap {w : World} {base : Nat} {e : TypeId} {size : Nat} {ao : Option Addr} {m c n : Nat} {xs : List Value} (h : w.ownsRow base e size (.slice ao m c) n xs) : n = m ∧ n ≤ c ∧ c ≤ maxLen := by
  rcases h.2 with ⟨e, h0⟩ | ⟨g, cap, cur, e, _, hg, h1, h2, -⟩
  · injection e with e1 e2 e3
    subst e2 e3
    exact ⟨h0, by omega, by unfold maxLen; omega⟩
  · injection e with e1 e2 e3
    subst e2 e3
    exact ⟨rfl, h1, h2⟩

theorem flat_at {α : Type} {n : Nat} {f : α → List Value} (hf : ∀ x, (f x).length = n) : ∀ (l : List α) (i : Nat) (x : α) (k : Nat), l[i]? = some x → k < n → (l.flatMap f)[i * n + k]? = (f x)[k]?
  | [], i, x, k, h, _ => by simp at h
  | y :: l, 0, x, k, h, hk => by
    simp at h
    subst h
    rw [List.flatMap_cons, Nat.zero_mul, Nat.zero_add, List.getElem?_append_left (by rw [hf]; exact hk)]
  | y :: l, i + 1, x, k, h, hk => by
    have ih := flat_at hf l i x k (by simpa using h) hk
    rw [List.flatMap_cons, List.getElem?_append_right (by rw [hf, Nat.add_mul]; omega), hf, show (i + 1) * n + k - n = i * n + k by rw [Nat.add_mul]; omega]
    exact ih

theorem flat_length {α : Type} {n : Nat} {f : α → List Value} (hf : ∀ x, (f x).length = n) (l : List α) : (l.flatMap f).length = l.length * n := by
  induction l with
  | nil => simp
  | cons x l ih => rw [List.flatMap_cons, List.length_append, ih, hf, List.length_cons, Nat.add_mul, Nat.one_mul]; omega

theorem flat_set {α : Type} {n : Nat} {f : α → List Value} (hf : ∀ x, (f x).length = n) {x y : α} {k : Nat} {u : Value} (hk : k < n) (he : (f x).set k u = f y) (B : List α) : ∀ A : List α, ((A ++ x :: B).flatMap f).set (A.length * n + k) u = (A ++ y :: B).flatMap f
  | [] => by
    simp only [List.nil_append, List.flatMap_cons, List.length_nil, Nat.zero_mul, Nat.zero_add]
    rw [List.set_append_left _ _ (by rw [hf]; exact hk), he]
  | a :: A => by
    have ih := flat_set hf hk he B A
    simp only [List.cons_append, List.flatMap_cons]
    rw [List.set_append_right _ _ (by rw [hf, List.length_cons, Nat.add_mul]; omega), hf, show (a :: A).length * n + k - n = A.length * n + k by rw [List.length_cons, Nat.add_mul]; omega, ih]

/-- The cells of one of them. -/
theorem Gw.cells {w : World} {wl : List Nat} {t : Int} {gb m c : Nat} {G : List Gn} (h : Gw w wl t (.slice (some ⟨gb, 0, none⟩) m c) G) {i : Nat} {g : Gn} (hg : G[i]? = some g) :
    w.cell? ⟨gb, i * 4, none⟩ = some (.int .i64 g.1.tid) ∧ w.cell? ⟨gb, i * 4 + 1, none⟩ = some g.2 ∧ w.cell? ⟨gb, i * 4 + 2, none⟩ = some (.int .i64 g.1.n) ∧ w.cell? ⟨gb, i * 4 + 3, none⟩ = some (.int .i64 (t - g.1.heard)) ∧ ∀ j, w.frozen? ⟨gb, j, none⟩ = false := by
  have a : ∀ k, k < 4 → w.cell? ⟨gb, i * 4 + k, none⟩ = (gc t g)[k]? := fun k hk => by
    have h1 := flat_at (gc_len t) G i g k hg hk
    obtain ⟨u, hu⟩ : ∃ u, (gc t g)[k]? = some u := ⟨_, List.getElem?_eq_getElem (by rw [gc_len]; exact hk)⟩
    rw [hu] at h1 ⊢
    have := h.row.cells (g := gb) rfl (i * 4 + k) u h1
    rwa [Addr.add_lit, Nat.zero_add] at this
  exact ⟨by have := a 0 (by omega); rwa [Nat.add_zero] at this, a 1 (by omega), a 2 (by omega), a 3 (by omega), fun j => by
    obtain ⟨cs, hc⟩ := row_block h.row (k := gb) rfl
    exact unfrozen_of hc⟩

/-- One cell of one of them is written. -/
theorem Gw.set {w : World} {wl : List Nat} {t : Int} {gb m c : Nat} {A B : List Gn} {g g' : Gn} (h : Gw w wl t (.slice (some ⟨gb, 0, none⟩) m c) (A ++ g :: B)) {k : Nat} {u : Value} (hk : k < 4) (he : (gc t g).set k u = gc t g') (h2 : g'.2 = g.2) (hp : g'.1.puts = g.1.puts) :
    Gw (w.setCell ⟨gb, A.length * 4 + k, none⟩ u) wl t (.slice (some ⟨gb, 0, none⟩) m c) (A ++ g' :: B) := by
  have em := (row_cap h.row).1
  subst em
  have ts : Turn [gb] w (w.setCell ⟨gb, A.length * 4 + k, none⟩ u) := Turn.setCell w (by simp) u
  obtain ⟨cs, hc⟩ := row_block h.row (k := gb) rfl
  refine ⟨?_, fun x hx => ?_, ?_, h.hw, fun x hx j hj => ?_⟩
  · have := (h.row.stored (A.length * 4 + k) u).1
    rw [flat_set (gc_len t) hk he] at this
    rw [show (A ++ g' :: B).length = (A ++ g :: B).length by simp]
    exact this
  · have nb : ∀ y ∈ A ++ g :: B, ∀ j, y.2.ownBlock = some j → j ∉ [gb] := fun y hy j hj e => by
      obtain ⟨c2, h3⟩ := row_block (h.rows y hy) hj
      exact ty_ne h3 hc (by decide) (List.mem_singleton.1 e)
    rcases mem_mid' hx with rfl | hx
    · rw [h2, hp]
      exact ownsRow_turn (h.rows g (by simp)) ts (nb g (by simp))
    · exact ownsRow_turn (h.rows x (mem_mid hx)) ts (nb x (mem_mid hx))
  · obtain ⟨s1, s2, s3⟩ := pair_mid h.sep
    exact pair_ins s1 (fun a ha => by rw [h2]; exact s2 a ha) (fun a ha => by rw [h2]; exact s3 a ha)
  · rcases mem_mid' hx with rfl | hx
    · rw [h2] at hj
      exact h.hrow g (by simp) j hj
    · exact h.hrow x (mem_mid hx) j hj

/-- One's slice is another one now. -/
theorem Gw.setPuts {w w2 : World} {wl : List Nat} {t : Int} {gb m c : Nat} {A B : List Gn} {q q' : Gq} {v v' : Value} (h : Gw w wl t (.slice (some ⟨gb, 0, none⟩) m c) (A ++ (q, v) :: B)) (tt : Turn v.ownBlock.toList w w2)
    (hq : q'.tid = q.tid ∧ q'.n = q.n ∧ q'.heard = q.heard) (hr : w2.ownsRow 0 28 2 v' q'.puts.length (pcells q'.puts)) (ho : v'.ownBlock = v.ownBlock ∨ ∀ k, v'.ownBlock = some k → w.heap.size ≤ k) :
    Gw (w2.setCell ⟨gb, A.length * 4 + 1, none⟩ v') (wl ++ v'.ownBlock.toList) t (.slice (some ⟨gb, 0, none⟩) m c) (A ++ (q', v') :: B) ∧ w2.heap[gb]? = w.heap[gb]? := by
  have em := (row_cap h.row).1
  subst em
  have ts : Turn [gb] w2 (w2.setCell ⟨gb, A.length * 4 + 1, none⟩ v') := Turn.setCell w2 (by simp) v'
  obtain ⟨cs, hc⟩ := row_block h.row (k := gb) rfl
  have hgv : gb ∉ v.ownBlock.toList := fun e => by
    obtain ⟨c2, h3⟩ := row_block (h.rows (q, v) (by simp)) (Option.mem_toList.1 e)
    exact ty_ne h3 hc (by decide) rfl
  have hc2 := tt.heap hc hgv
  obtain ⟨s1, s2, s3⟩ := pair_mid h.sep
  have row2 := ownsRow_turn h.row tt (fun k hk => by cases hk; exact hgv)
  have sv : ∀ y ∈ A ++ B, ∀ k, v.ownBlock = some k → y.2.ownBlock ≠ some k := fun y hy k hk e => by
    rcases List.mem_append.1 hy with h1 | h1
    · exact s2 y h1 k e hk
    · exact s3 y h1 k hk e
  have sv' : ∀ y ∈ A ++ B, ∀ k, v'.ownBlock = some k → y.2.ownBlock ≠ some k := fun y hy k hk e => by
    rcases ho with e1 | e1
    · exact sv y hy k (by rw [← e1]; exact hk) e
    · obtain ⟨c2, h3⟩ := row_block (h.rows y (mem_mid hy)) e
      have := lt_of_heap h3
      have := e1 k hk
      omega
  have nb : ∀ y ∈ A ++ B, ∀ j, y.2.ownBlock = some j → j ∉ [gb] := fun y hy j hj e => by
    obtain ⟨c2, h3⟩ := row_block (h.rows y (mem_mid hy)) hj
    exact ty_ne h3 hc (by decide) (List.mem_singleton.1 e)
  refine ⟨⟨?_, fun x hx => ?_, pair_ins s1 (fun a ha k hk e => sv' a (List.mem_append.2 (.inl ha)) k e hk) (fun a ha k hk => sv' a (List.mem_append.2 (.inr ha)) k hk), fun k hk => List.mem_append.2 (.inl (h.hw k hk)), fun x hx j hj => ?_⟩, by rw [hc2, hc]⟩
  · have := (row2.stored (A.length * 4 + 1) v').1
    rw [flat_set (y := (q', v')) (gc_len t) (by omega) (by unfold gc; simp [hq.1, hq.2.1, hq.2.2])] at this
    rw [show (A ++ (q', v') :: B).length = (A ++ (q, v) :: B).length by simp]
    exact this
  · rcases mem_mid' hx with rfl | hx
    · exact ownsRow_turn hr ts (fun k hk e => by
        obtain ⟨c2, h3⟩ := row_block hr hk
        exact ty_ne h3 hc2 (by decide) (List.mem_singleton.1 e))
    · exact ownsRow_turn (ownsRow_turn (h.rows x (mem_mid hx)) tt (fun k hk e => sv x hx k (Option.mem_toList.1 e) hk)) ts (nb x hx)
  · rcases mem_mid' hx with rfl | hx
    · exact List.mem_append.2 (.inr (Option.mem_toList.2 hj))
    · exact List.mem_append.2 (.inl (h.hrow x (mem_mid hx) j hj))

/-- Another row of them, of which the slices are the same or none. -/
theorem Gw.again {w w' : World} {wl : List Nat} {t : Int} {vw vw' : Value} {G G' : List Gn} (h : Gw w wl t vw G) (tt : Turn [] w w') (hr : w'.ownsRow w.heap.size 34 4 vw' G'.length (G'.flatMap (gc t)))
    (hs : G'.Pairwise fun g h => ∀ k, g.2.ownBlock = some k → h.2.ownBlock ≠ some k) (hm : ∀ g ∈ G', g ∈ G ∨ g.2 = .slice none 0 0 ∧ g.1.puts = []) : Gw w' (wl ++ vw'.ownBlock.toList) t vw' G' :=
  ⟨ownsRow_base hr (fun _ _ => Nat.zero_le _), fun g hg => by
    rcases hm g hg with h1 | ⟨h1, h2⟩
    · exact ownsRow_turn (h.rows g h1) tt (by simp)
    · rw [h1, h2]
      exact World.ownsRow_nil _ _ _ _, hs, fun k hk => List.mem_append.2 (.inr (Option.mem_toList.2 hk)), fun g hg k hk => by
    rcases hm g hg with h1 | ⟨h1, -⟩
    · exact List.mem_append.2 (.inl (h.hrow g h1 k hk))
    · rw [h1] at hk
      cases hk⟩

theorem ones_gc {w : World} {wl : List Nat} {t : Int} {vw : Value} {G : List Gn} (h : Gw w wl t vw G) : ∀ u ∈ G.flatMap (gc t), u.oneCell' = true := by
  intro u hu
  obtain ⟨g, hg, hu⟩ := List.mem_flatMap.1 hu
  obtain ⟨ao, c, hv⟩ := put_form (h.rows g hg)
  unfold gc at hu
  rw [hv] at hu
  simp at hu
  rcases hu with rfl | rfl | rfl | rfl <;> rfl

/-- A front of the row, what stands behind it, as what is appended. -/
theorem Gw.front {w : World} {wl : List Nat} {t : Int} {ao : Option Addr} {m c : Nat} {A R : List Gn} (h : Gw w wl t (.slice ao m c) (A ++ R)) (hao : ao ≠ none) : Src 4 w ao A.length c (A.flatMap (gc t)) := by
  obtain ⟨g, hg⟩ : ∃ g, ao = some ⟨g, 0, none⟩ := by
    rcases h.row.2 with ⟨e, h0⟩ | ⟨g, cap, cur, e, -⟩
    · injection e with e1
      exact absurd e1 hao
    · injection e with e1
      exact ⟨g, e1⟩
  subst hg
  refine .inr ⟨_, rfl, flat_length (gc_len t) A, fun j u hj => ?_⟩
  have hl : j < (A.flatMap (gc t)).length := (List.getElem?_eq_some_iff.1 hj).1
  exact h.row.cells (g := g) rfl j u (by rw [List.flatMap_append, List.getElem?_append_left hl]; exact hj)

theorem Gw.back {w : World} {wl : List Nat} {t : Int} {gb m c : Nat} {A R : List Gn} (h : Gw w wl t (.slice (some ⟨gb, 0, none⟩) m c) (A ++ R)) (k c' : Nat) (hk : k = A.length) : Src 4 w (some ⟨gb, k * 4, none⟩) R.length c' (R.flatMap (gc t)) := by
  subst hk
  refine .inr ⟨_, rfl, flat_length (gc_len t) R, fun j u hj => ?_⟩
  have hl : j < (R.flatMap (gc t)).length := (List.getElem?_eq_some_iff.1 hj).1
  have := h.row.cells (g := gb) rfl (A.length * 4 + j) u (by rw [List.flatMap_append, List.getElem?_append_right (by rw [flat_length (gc_len t)]; omega), flat_length (gc_len t), show A.length * 4 + j - A.length * 4 = j by omega]; exact hj)
  rw [Addr.add_lit, Nat.zero_add] at this
  rw [Addr.add_lit]
  exact this

theorem Tryz.gorow : (Tryz.prog.info? 34).map (fun i => (i.zero, i.size, i.bytes)) = some (some (.agg #[.int .i64 0, .slice none 0 0, .int .i64 0, .int .i64 0]), 4, 48) := by kernel_rfl

end Go.Proofs.YtjmainefmiefcaaGreat


/-
  A Locks and the law's own list beside it; the law's eq; a slice of Ops.
-/
namespace Go.Proofs.YtjmainefmiefcaaGreat
open Go.RowKit

/-- The Locks, the law's own list, and some blocks more of the law's own: none is another one's. -/
def Bo (w wx : World) (el : List Nat) (b nm : Nat) (ticks : Int) (Q : List Gq) (t : Int) (vw : Value) (G : List Gn) : Prop :=
  ∃ ow wl, Ls wx ow b nm ticks Q ∧ Gw wx wl t vw G ∧ (∀ k ∈ ow, k ∉ wl) ∧ (∀ k ∈ ow, w.heap.size ≤ k) ∧ (∀ k ∈ wl, w.heap.size ≤ k) ∧ (∀ k ∈ el, k ∉ ow ∧ k ∉ wl ∧ w.heap.size ≤ k ∧ k < wx.heap.size) ∧ Below w.heap.size w wx

/-- The blocks of el have not turned. -/
def Off (el : List Nat) (w w' : World) : Prop := ∃ l, Turn l w w' ∧ ∀ k ∈ el, k ∉ l

theorem Off.heap {el : List Nat} {w w' : World} (h : Off el w w') {q : Nat} {o : Obj} (hq : q ∈ el) (hb : w.heap[q]? = some o) : w'.heap[q]? = some o := by
  obtain ⟨l, t, hl⟩ := h
  exact t.heap hb (hl q hq)

theorem Off.row {el : List Nat} {w w' : World} (h : Off el w w') {base : Nat} {e : TypeId} {size : Nat} {v : Value} {n : Nat} {xs : List Value} (hr : w.ownsRow base e size v n xs) (hv : ∀ k, v.ownBlock = some k → k ∈ el) : w'.ownsRow base e size v n xs := by
  obtain ⟨l, t, hl⟩ := h
  exact ownsRow_turn hr t (fun k hk => hl k (hv k hk))

theorem Off.quiet {el : List Nat} {w w' : World} (t : Turn [] w w') : Off el w w' := ⟨[], t, by simp⟩

theorem Bo.bel {w wx : World} {el : List Nat} {b nm : Nat} {ticks : Int} {Q : List Gq} {t : Int} {vw : Value} {G : List Gn} (h : Bo w wx el b nm ticks Q t vw G) : Below w.heap.size w wx := by
  obtain ⟨ow, wl, h1, h2, h3, h4, h5, h7, h6⟩ := h
  exact h6

theorem Bo.quiet {w wx w' : World} {el : List Nat} {b nm : Nat} {ticks : Int} {Q : List Gq} {t : Int} {vw : Value} {G : List Gn} (h : Bo w wx el b nm ticks Q t vw G) (tt : Turn [] wx w') : Bo w w' el b nm ticks Q t vw G := by
  obtain ⟨ow, wl, h1, h2, h3, h4, h5, h7, h6⟩ := h
  exact ⟨ow, wl, h1.turn tt (by simp), h2.turn tt (by simp), h3, h4, h5, fun k hk => ⟨(h7 k hk).1, (h7 k hk).2.1, (h7 k hk).2.2.1, Nat.lt_of_lt_of_le (h7 k hk).2.2.2 tt.size⟩, h6.trans (tt.belowAll.mono h6.size)⟩

theorem Bo.start {w wx : World} {b nm : Nat} {ticks : Int} {Q : List Gq} (h : Lw w wx b nm ticks Q) (t : Int) : Bo w wx [] b nm ticks Q t (.slice none 0 0) [] := by
  obtain ⟨ow, h1, h2, h3⟩ := h
  exact ⟨ow, [], h1, Gw.nil wx t, by simp, h2, by simp, by simp, h3⟩

theorem Bo.less {w wx : World} {el el' : List Nat} {b nm : Nat} {ticks : Int} {Q : List Gq} {t : Int} {vw : Value} {G : List Gn} (h : Bo w wx el b nm ticks Q t vw G) (hl : ∀ k ∈ el', k ∈ el) : Bo w wx el' b nm ticks Q t vw G := by
  obtain ⟨ow, wl, h1, h2, h3, h4, h5, h7, h6⟩ := h
  exact ⟨ow, wl, h1, h2, h3, h4, h5, fun k hk => h7 k (hl k hk), h6⟩

/-- The law's other blocks turn, new ones come. -/
theorem Bo.extra {w wx w' : World} {el el' l : List Nat} {b nm : Nat} {ticks : Int} {Q : List Gq} {t : Int} {vw : Value} {G : List Gn} (h : Bo w wx el b nm ticks Q t vw G) (tt : Turn l wx w') (hl : ∀ k ∈ l, k ∈ el) (he : ∀ k ∈ el', (k ∈ el ∨ wx.heap.size ≤ k) ∧ k < w'.heap.size) : Bo w w' el' b nm ticks Q t vw G := by
  obtain ⟨ow, wl, h1, h2, h3, h4, h5, h7, h6⟩ := h
  refine ⟨_, _, h1.tight.turn tt (fun k hk hm => (h7 k (hl k hk)).1 (List.mem_filter.1 hm).1), h2.tight.turn tt (fun k hk hm => (h7 k (hl k hk)).2.1 (List.mem_filter.1 hm).1), fun k hk hm => h3 k (List.mem_filter.1 hk).1 (List.mem_filter.1 hm).1, fun k hk => h4 k (List.mem_filter.1 hk).1, fun k hk => h5 k (List.mem_filter.1 hk).1, fun k hk => ?_, h6.trans (tt.below (fun k hk => (h7 k (hl k hk)).2.2.1) h6.size)⟩
  obtain ⟨e1 | e1, e2⟩ := he k hk
  · exact ⟨fun hm => (h7 k e1).1 (List.mem_filter.1 hm).1, fun hm => (h7 k e1).2.1 (List.mem_filter.1 hm).1, (h7 k e1).2.2.1, e2⟩
  · exact ⟨fun hm => by have : k < wx.heap.size := by simpa using (List.mem_filter.1 hm).2
                        omega, fun hm => by have : k < wx.heap.size := by simpa using (List.mem_filter.1 hm).2
                                            omega, Nat.le_trans h6.size e1, e2⟩

/-- A call of the Locks. -/
theorem Bo.call {w wx : World} {el : List Nat} {b nm nm' : Nat} {ticks ticks' : Int} {Q Q' : List Gq} {t : Int} {vw : Value} {G : List Gn} (h : Bo w wx el b nm ticks Q t vw G) {f : FuncId} {args : Array Value} {R : Ending → World → Prop}
    (hc : ∀ ow, Ls wx ow b nm ticks Q → Calls Tryz.prog f args wx (fun e w' => ∃ ow', R e w' ∧ Ls w' ow' b nm' ticks' Q' ∧ Stp ow ow' wx w')) : Calls Tryz.prog f args wx (fun e w' => R e w' ∧ Bo w w' el b nm' ticks' Q' t vw G ∧ Off el wx w') := by
  obtain ⟨ow, wl, h1, h2, h3, h4, h5, h7, h6⟩ := h
  refine (hc _ h1).mono ?_
  rintro e w' ⟨ow', hR, hL, hs⟩
  refine ⟨hR, ⟨ow', _, hL, h2.tight.turn hs.turn (fun k hk hm => h3 k hk (List.mem_filter.1 hm).1), fun k hk hm => ?_, fun k hk => ?_, fun k hk => h5 k (List.mem_filter.1 hk).1, fun k hk => ⟨fun hm => ?_, fun hm => (h7 k hk).2.1 (List.mem_filter.1 hm).1, (h7 k hk).2.2.1, Nat.lt_of_lt_of_le (h7 k hk).2.2.2 hs.turn.size⟩, h6.trans (hs.turn.below h4 h6.size)⟩, ⟨ow, hs.turn, fun k hk => (h7 k hk).1⟩⟩
  · obtain ⟨hm1, hm2⟩ := List.mem_filter.1 hm
    rcases hs.new k hk with e1 | e1
    · exact h3 k e1 hm1
    · have : k < wx.heap.size := by simpa using hm2
      omega
  · rcases hs.new k hk with e1 | e1
    · exact h4 k e1
    · exact Nat.le_trans h6.size e1
  · rcases hs.new k hm with e1 | e1
    · exact (h7 k hk).1 e1
    · have := (h7 k hk).2.2.2
      omega

/-- The law's own list turns. -/
theorem Bo.mine {w wx w' : World} {el : List Nat} {b nm : Nat} {ticks : Int} {Q : List Gq} {t t' : Int} {vw vw' : Value} {G G' : List Gn} (h : Bo w wx el b nm ticks Q t vw G) (hc : ∀ wl, Gw wx wl t vw G → ∃ wl', Gw w' wl' t' vw' G' ∧ Stp wl wl' wx w') : Bo w w' el b nm ticks Q t' vw' G' ∧ Off el wx w' := by
  obtain ⟨ow, wl, h1, h2, h3, h4, h5, h7, h6⟩ := h
  obtain ⟨wl', g, hs⟩ := hc _ h2
  refine ⟨⟨_, wl', h1.tight.turn hs.turn (fun k hk hm => h3 k (List.mem_filter.1 hm).1 hk), g, fun k hk hm => ?_, fun k hk => h4 k (List.mem_filter.1 hk).1, fun k hk => ?_, fun k hk => ⟨fun hm => (h7 k hk).1 (List.mem_filter.1 hm).1, fun hm => ?_, (h7 k hk).2.2.1, Nat.lt_of_lt_of_le (h7 k hk).2.2.2 hs.turn.size⟩, h6.trans (hs.turn.below h5 h6.size)⟩, ⟨wl, hs.turn, fun k hk => (h7 k hk).2.1⟩⟩
  · obtain ⟨hk1, hk2⟩ := List.mem_filter.1 hk
    rcases hs.new k hm with e1 | e1
    · exact h3 k hk1 e1
    · have : k < wx.heap.size := by simpa using hk2
      omega
  · rcases hs.new k hk with e1 | e1
    · exact h5 k e1
    · exact Nat.le_trans h6.size e1
  · rcases hs.new k hm with e1 | e1
    · exact (h7 k hk).2.1 e1
    · have := (h7 k hk).2.2.2
      omega

theorem Bo.gw {w wx : World} {el : List Nat} {b nm : Nat} {ticks : Int} {Q : List Gq} {t : Int} {vw : Value} {G : List Gn} (h : Bo w wx el b nm ticks Q t vw G) : ∃ wl, Gw wx wl t vw G := by
  obtain ⟨ow, wl, h1, h2, h3, h4, h5, h7, h6⟩ := h
  exact ⟨wl, h2⟩

theorem Bo.ls {w wx : World} {el : List Nat} {b nm : Nat} {ticks : Int} {Q : List Gq} {t : Int} {vw : Value} {G : List Gn} (h : Bo w wx el b nm ticks Q t vw G) : ∃ ow, Ls wx ow b nm ticks Q := by
  obtain ⟨ow, wl, h1, h2, h3, h4, h5, h7, h6⟩ := h
  exact ⟨ow, h1⟩

/-- One cell of one of them is written. -/
theorem Bo.set {w wx : World} {el : List Nat} {b nm : Nat} {ticks : Int} {Q : List Gq} {t : Int} {gb m c : Nat} {A B : List Gn} {g g' : Gn} (h : Bo w wx el b nm ticks Q t (.slice (some ⟨gb, 0, none⟩) m c) (A ++ g :: B)) {k : Nat} {u : Value} (hk : k < 4) (he : (gc t g).set k u = gc t g') (h2 : g'.2 = g.2) (hp : g'.1.puts = g.1.puts) :
    Bo w (wx.setCell ⟨gb, A.length * 4 + k, none⟩ u) el b nm ticks Q t (.slice (some ⟨gb, 0, none⟩) m c) (A ++ g' :: B) ∧ Off el wx (wx.setCell ⟨gb, A.length * 4 + k, none⟩ u) :=
  h.mine (fun wl hg => ⟨wl, hg.set hk he h2 hp, fun _ h => .inl h, fun _ h => h, Turn.setCell _ (hg.hw gb rfl) u⟩)

theorem Bo.some {w wx : World} {el : List Nat} {b nm : Nat} {ticks : Int} {Q : List Gq} {t : Int} {vw : Value} {A B : List Gn} {g : Gn} (h : Bo w wx el b nm ticks Q t vw (A ++ g :: B)) : ∃ gb m c, vw = .slice (.some ⟨gb, 0, none⟩) m c ∧ (A ++ g :: B).length = m ∧ m ≤ c := by
  obtain ⟨wl, hg⟩ := h.gw
  obtain ⟨ao, c, rfl⟩ := row_slice hg.row
  obtain ⟨gb, rfl⟩ := row_addr hg.row (by simp; omega)
  exact ⟨gb, _, c, rfl, rfl, (row_cap hg.row).2.1⟩

theorem Bo.cells {w wx : World} {el : List Nat} {b nm : Nat} {ticks : Int} {Q : List Gq} {t : Int} {gb m c : Nat} {G : List Gn} (h : Bo w wx el b nm ticks Q t (.slice (.some ⟨gb, 0, none⟩) m c) G) {i : Nat} {g : Gn} (hg : G[i]? = .some g) :
    wx.cell? ⟨gb, i * 4, none⟩ = .some (.int .i64 g.1.tid) ∧ wx.cell? ⟨gb, i * 4 + 1, none⟩ = .some g.2 ∧ wx.cell? ⟨gb, i * 4 + 2, none⟩ = .some (.int .i64 g.1.n) ∧ wx.cell? ⟨gb, i * 4 + 3, none⟩ = .some (.int .i64 (t - g.1.heard)) ∧ ∀ j, wx.frozen? ⟨gb, j, none⟩ = false := by
  obtain ⟨wl, h2⟩ := h.gw
  exact h2.cells hg

theorem Bo.len {w wx : World} {el : List Nat} {b nm : Nat} {ticks : Int} {Q : List Gq} {t : Int} {ao : Option Addr} {m c : Nat} {G : List Gn} (h : Bo w wx el b nm ticks Q t (.slice ao m c) G) : G.length = m ∧ m ≤ c ∧ c ≤ maxLen := by
  obtain ⟨wl, h2⟩ := h.gw
  have := row_cap h2.row
  omega

theorem Bo.form {w wx : World} {el : List Nat} {b nm : Nat} {ticks : Int} {Q : List Gq} {t : Int} {vw : Value} {G : List Gn} (h : Bo w wx el b nm ticks Q t vw G) : ∃ ao c, vw = .slice ao G.length c := by
  obtain ⟨wl, h2⟩ := h.gw
  exact row_slice h2.row

theorem Bo.apart {w wx : World} {el : List Nat} {b nm : Nat} {ticks : Int} {Q : List Gq} {t : Int} {gb m c : Nat} {G : List Gn} (h : Bo w wx el b nm ticks Q t (.slice (.some ⟨gb, 0, none⟩) m c) G) {q : Nat} (hq : q ∈ el) : q ≠ gb := by
  obtain ⟨ow, wl, h1, h2, h3, h4, h5, h7, h6⟩ := h
  exact fun e => (h7 q hq).2.1 (by rw [e]; exact h2.hw gb rfl)

/-! ### eq -/

set_option maxHeartbeats 2000000 in
set_option maxRecDepth 100000 in
/-- Two rows of the same numbers. -/
theorem eq13_calls {w : World} {a1 a2 : Option Addr} {c1 c2 : Nat} {l : List Int} (h1 : Sr w a1 c1 l) (h2 : Sr w a2 c2 l) (hl : l.length ≤ 1000000) : Calls Tryz.prog 19 #[.slice a1 l.length c1, .slice a2 l.length c2] w fun e w' => e = .returned (.bool true) ∧ Turn [] w w' := by
  have H1 := Lib.hid h1
  have H2 := Lib.hid h2
  obtain ⟨n, hn⟩ : ∃ n, n = l.length := ⟨_, rfl⟩
  have HN := Lib.hid hn
  rw [← hn] at hl ⊢
  clear h1 h2 hn
  go_enter Tryz.func19, Tryz.ntmps19
  go_wp2_with fail
  go_loopw [5] (fun vi wx => ∃ k : Nat, k ≤ n ∧ vi = .int .i64 (k : Int) ∧ Turn [] w wx) (fun vi _ => n - (intOf vi).toNat)
  case atStart => exact ⟨0, by omega, rfl, Turn.refl _ _⟩
  case round =>
    obtain ⟨k, hk, rfl, ht⟩ := hrel
    have T := Lib.hid ht
    by_cases hkn : k < n
    · have hkl : k < l.length := by rw [← HN.out]; exact hkn
      rcases H1.out with ⟨-, -, e⟩ | ⟨A1, rfl, hc1⟩
      · rw [e] at hkl; simp at hkl
      rcases H2.out with ⟨-, -, e⟩ | ⟨A2, rfl, hc2⟩
      · rw [e] at hkl; simp at hkl
      obtain ⟨b1, o1, s1⟩ := A1
      obtain ⟨b2, o2, s2⟩ := A2
      have e1 : s1 = none := by simpa [Addr.add] using World.cell?_spot (hc1 0 (by omega))
      have e2 : s2 = none := by simpa [Addr.add] using World.cell?_spot (hc2 0 (by omega))
      subst e1 e2
      have q1 := T.out.cell (hc1 k hkl) (by simp)
      have q2 := T.out.cell (hc2 k hkl) (by simp)
      rw [Addr.add_lit] at q1 q2
      generalize l.getD k 0 = x at *
      have hb : 0 ≤ (k : Int) ∧ (k : Int) < (n : Int) := by omega
      clear hc1 hc2 ht hkn hkl
      go_wp2_with fail
      go_quiet (fail)
      go_wp2_with fail
      go_roundw
      case rel => exact ⟨k + 1, by omega, by go_num, T.out.trans (Turn.drewN [] wr _) (by simp)⟩
      case measure => simp [intOf]; omega
    · have hkk : k = n := by omega
      subst hkk
      have hlt : ¬ ((k : Int) < (k : Int)) := by omega
      go_wp2
      go_ret
      exact ⟨rfl, T.out⟩

/-! ### Ops -/

/-- A call: its kind, its numbers, its put. -/
structure Ov where
  kind : Int
  t : Int
  u : Int
  q : ByteArray
  b : ByteArray

def Ov.ok (x : Ov) : Prop := inI64 x.kind ∧ inI64 x.t ∧ inI64 x.u ∧ x.q.size ≤ 9223372036854775807 ∧ x.b.size ≤ 9223372036854775807

def ov0 : Ov := ⟨0, 0, 0, ⟨#[]⟩, ⟨#[]⟩⟩

def OvAt (w : World) (A : Addr) (x : Ov) : Prop := w.cell? A = some (.int .i64 x.kind) ∧ w.cell? (A.add 1) = some (.int .i64 x.t) ∧ w.cell? (A.add 2) = some (.int .i64 x.u) ∧ w.cell? (A.add 3) = some (.string x.q) ∧ w.cell? (A.add 4) = some (.string x.b)

/-- A slice of calls, as cells. -/
def Ol (w : World) (ao : Option Addr) (c : Nat) (l : List Ov) : Prop :=
  (ao = none ∧ c = 0 ∧ l = []) ∨ ∃ A : Addr, ao = some A ∧ l.length ≤ c ∧ c ≤ maxLen ∧ ∀ i, i < l.length → (l.getD i ov0).ok ∧ OvAt w (A.add (i * 5)) (l.getD i ov0)

theorem Ol.len {w : World} {ao : Option Addr} {c : Nat} {l : List Ov} (h : Ol w ao c l) : (l.length : Int) ≤ 9223372036854775807 := by
  rcases h with ⟨_, _, rfl⟩ | ⟨A, _, q1, q2, _⟩
  · simp
  · unfold maxLen at q2; omega

theorem Ol.at {w w' : World} {ao : Option Addr} {c : Nat} {l : List Ov} (h : Ol w ao c l) (t : Below w.heap.size w w') {i : Nat} (hi : i < l.length) : ∃ b off, ao = some ⟨b, off, none⟩ ∧ (l.getD i ov0).ok ∧
    w'.cell? ⟨b, off + i * 5, none⟩ = some (.int .i64 (l.getD i ov0).kind) ∧ w'.cell? ⟨b, off + i * 5 + 1, none⟩ = some (.int .i64 (l.getD i ov0).t) ∧ w'.cell? ⟨b, off + i * 5 + 2, none⟩ = some (.int .i64 (l.getD i ov0).u) ∧ w'.cell? ⟨b, off + i * 5 + 3, none⟩ = some (.string (l.getD i ov0).q) ∧ w'.cell? ⟨b, off + i * 5 + 4, none⟩ = some (.string (l.getD i ov0).b) := by
  rcases h with ⟨_, _, rfl⟩ | ⟨A, rfl, _, _, hc⟩
  · simp at hi
  · obtain ⟨hk, c0, c1, c2, c3, c4⟩ := hc i hi
    obtain ⟨b, off, spot⟩ := A
    have hs : spot = none := by simpa [Addr.add] using World.cell?_spot (hc 0 (by omega)).2.1
    subst hs
    have T := Turn.of_below t []
    simp only [Addr.add_lit] at c0 c1 c2 c3 c4
    exact ⟨b, off, rfl, hk, T.cell c0 (by simp), T.cell c1 (by simp), T.cell c2 (by simp), T.cell c3 (by simp), T.cell c4 (by simp)⟩

end Go.Proofs.YtjmainefmiefcaaGreat


/-
  A slice of truths that came in, as cells.
-/
namespace Go.Proofs.YtjmainefmiefcaaGreat
open Go.RowKit

/-- A slice of truths, as cells. -/
def Bl (w : World) (ao : Option Addr) (c : Nat) (l : List Bool) : Prop :=
  (ao = none ∧ c = 0 ∧ l = []) ∨
  ∃ A : Addr, ao = some A ∧ l.length ≤ c ∧ c ≤ maxLen ∧ ∀ i, i < l.length → w.cell? (A.add i) = some (.bool (l.getD i false))

theorem Bl.at {w : World} {ao : Option Addr} {c : Nat} {l : List Bool} (h : Bl w ao c l) (hl : l ≠ []) : ∃ b off, ao = some ⟨b, off, none⟩ ∧ b < w.heap.size ∧ ∀ i, i < l.length → w.cell? ⟨b, off + i, none⟩ = some (.bool (l.getD i false)) := by
  rcases h with ⟨_, _, h⟩ | ⟨A, rfl, _, _, hc⟩
  · exact absurd h hl
  · obtain ⟨b, off, spot⟩ := A
    have h0 := hc 0 (List.length_pos_iff.2 hl)
    have hs : spot = none := by simpa [Addr.add] using World.cell?_spot h0
    subst hs
    have hc' : ∀ i, i < l.length → w.cell? ⟨b, off + i, none⟩ = some (.bool (l.getD i false)) := fun i hi => by
      have := hc i hi
      rwa [Addr.add_lit] at this
    exact ⟨b, off, rfl, World.block_lt_of_cell? _ _ (hc' 0 (List.length_pos_iff.2 hl)), hc'⟩

theorem Bl.len {w : World} {ao : Option Addr} {c : Nat} {l : List Bool} (h : Bl w ao c l) : (l.length : Int) ≤ 9223372036854775807 := by
  rcases h with ⟨_, _, rfl⟩ | ⟨A, _, q1, q2, _⟩
  · simp
  · unfold maxLen at q2; omega

theorem Bl.turn {w w' : World} {ao : Option Addr} {c : Nat} {l : List Bool} (h : Bl w ao c l) (t : Turn [] w w') : Bl w' ao c l := by
  rcases h with h | ⟨A, h1, h2, h3, h4⟩
  · exact .inl h
  · exact .inr ⟨A, h1, h2, h3, fun i hi => t.cell (h4 i hi) (by simp)⟩

theorem Bl.below {w w' : World} {ao : Option Addr} {c : Nat} {l : List Bool} (h : Bl w ao c l) (t : Below w.heap.size w w') : Bl w' ao c l := h.turn (Turn.of_below t [])

end Go.Proofs.YtjmainefmiefcaaGreat


/-
  What opens the arguments of the laws of lock and sess: slices of truths, of ints, of Ops.
-/
namespace Go.Proofs.YtjmainefmiefcaaGreat
open Go.RowKit Go.ChangeShapes Go.WideShapes Go.ChangeAt Go.Deep

theorem open_truths {H : Type} {enc : TypeId × Value → H} {W : World} {a : Option Addr} {len cap : Nat} {d : DataW H} {p : List MemPlace}
    (h : DataW.Trod enc Tryz.prog W 0 (fun _ => true) true 60 (.slice a len cap) d p) : ∃ l : List Bool, len = l.length ∧ Bl W a cap l := by
  obtain ⟨fuel, hf⟩ := h
  rcases open_bools Tryz.underlying60 Tryz.underlying4 (by kernel_rfl) hf with ⟨hcs, _⟩ | ⟨x, l, c, B, hcs, _, hl, hm, _, hcell⟩
  · simp [Value.cells] at hcs
    obtain ⟨rfl, rfl, rfl⟩ := hcs
    exact ⟨[], rfl, .inl ⟨rfl, rfl, rfl⟩⟩
  · simp [Value.cells] at hcs
    obtain ⟨rfl, rfl, rfl⟩ := hcs
    refine ⟨(List.range len).map B, by simp, .inr ⟨x, rfl, by simpa using hl, hm, fun i hi => ?_⟩⟩
    have hi2 : i < len := by simpa using hi
    rw [hcell i (by omega)]
    simp [List.getD, hi2]

theorem exists_list13 {α : Type} (d : α) (P : Nat → α → Prop) : ∀ n, (∀ i, i < n → ∃ x, P i x) → ∃ l : List α, l.length = n ∧ ∀ i, i < n → P i (l.getD i d)
  | 0, _ => ⟨[], rfl, fun i hi => by omega⟩
  | n + 1, h => by
    obtain ⟨l, hl, hp⟩ := exists_list13 d P n (fun i hi => h i (by omega))
    obtain ⟨x, hx⟩ := h n (by omega)
    refine ⟨l ++ [x], by simp [hl], fun i hi => ?_⟩
    by_cases e : i < n
    · have : (l ++ [x]).getD i d = l.getD i d := by simp [List.getD, List.getElem?_append, hl, e]
      rw [this]
      exact hp i e
    · obtain rfl : i = n := by omega
      have : (l ++ [x]).getD i d = x := by simp [List.getD, ← hl]
      rw [this]
      exact hx

theorem cells5O : Tryz.prog.cellsOf 30 = 5 := by kernel_rfl
theorem cells1I13 : Tryz.prog.cellsOf 3 = 1 := by kernel_rfl
theorem cells1S13 : Tryz.prog.cellsOf 9 = 1 := by kernel_rfl
theorem cells2P13 : Tryz.prog.cellsOf 28 = 2 := by kernel_rfl

set_option maxHeartbeats 1000000 in
set_option maxRecDepth 100000 in
theorem open_ops13 {H : Type} {enc : TypeId × Value → H} {W : World} {a : Option Addr} {len cap : Nat} {d : DataW H} {p : List MemPlace}
    (h : DataW.Trod enc Tryz.prog W 0 (fun _ => true) true 22 (.slice a len cap) d p) : ∃ l : List Ov, len = l.length ∧ Ol W a cap l := by
  obtain ⟨fuel, hf⟩ := h
  rcases open_slice Tryz.underlying22 hf with ⟨hcs, _⟩ | ⟨x, l, c, m, n, D, Pl, hcs, _, hl, hm, hmm, _, hel⟩
  · simp [Value.cells] at hcs
    obtain ⟨rfl, rfl, rfl⟩ := hcs
    exact ⟨[], rfl, .inl ⟨rfl, rfl, rfl⟩⟩
  · simp [Value.cells] at hcs
    obtain ⟨rfl, rfl, rfl⟩ := hcs
    simp only [if_true] at hmm
    rw [cells5O] at hel
    obtain ⟨ops, hol, hop⟩ := exists_list13 ov0 (fun i (o : Ov) => o.ok ∧ OvAt W (x.add (i * 5)) o) len (by
      intro i hi
      obtain ⟨cs, hc, ht⟩ := hel i (by omega)
      obtain ⟨y0, y1, y2, y3, k, _, hlen, t0, t1, t2, t3⟩ := Go.Joins.trod_struct4 Tryz.underlying30 ht
      rw [cells5O] at hlen
      obtain ⟨_, _, hat⟩ := World.cells?_some hc
      match cs, hlen with
      | [v0, v1, v2, v3, v4], _ =>
        dsimp only at t3
        rw [cells2P13] at t3
        simp only [List.drop_zero, List.drop_succ_cons, List.take_succ_cons, List.take_zero] at t3
        obtain ⟨z0, z1, k2, _, _, s0, s1⟩ := trod_struct2 Tryz.underlying28 t3
        obtain ⟨kd, e0, _, w0⟩ := DataW.trod_int Tryz.underlying3 t0
        obtain ⟨tt, e1, _, w1⟩ := DataW.trod_int Tryz.underlying3 t1
        obtain ⟨uu, e2, _, w2⟩ := DataW.trod_int Tryz.underlying3 t2
        obtain ⟨sq, e3, _, w3⟩ := DataW.trod_string Tryz.underlying9 s0
        obtain ⟨sb, e4, _, w4⟩ := DataW.trod_string Tryz.underlying9 s1
        have q0 := hat 0 (by omega)
        have q1 := hat 1 (by omega)
        have q2 := hat 2 (by omega)
        have q3 := hat 3 (by omega)
        have q4 := hat 4 (by omega)
        dsimp only at e0 e1 e2 e3 e4
        rw [cells1I13] at e0 e1 e2
        rw [cells1S13] at e3 e4
        simp only [List.drop_zero, List.drop_succ_cons, List.take_succ_cons, List.take_zero, List.cons.injEq, and_true] at e0 e1 e2 e3 e4
        subst e0 e1 e2 e3 e4
        have a0 : (x.add (i * 5)).add 0 = x.add (i * 5) := by simp [Addr.add]
        rw [a0] at q0
        unfold maxLen at w3 w4
        exact ⟨⟨kd, tt, uu, sq, sb⟩, ⟨bounds_i64 w0, bounds_i64 w1, bounds_i64 w2, by show sq.size ≤ _; omega, by show sb.size ≤ _; omega⟩, q0, q1, q2, q3, q4⟩)
    refine ⟨ops, hol.symm, .inr ⟨x, rfl, by omega, hm, fun i hi => hop i (by omega)⟩⟩

end Go.Proofs.YtjmainefmiefcaaGreat


/-
  What a Sessions' calls do: a list of contracts, over any way to hold its state; it is shown of the code elsewhere.
-/
namespace Go.Proofs.YtjmainefmiefcaaGreat
open Go.RowKit

/-- A session: its number, its transaction (0: none), when it was heard of. -/
structure Sq where
  id : Int
  tid : Int
  heard : Int

/-- Who was silent for six ticks or more. -/
def silS (t : Int) (S : List Sq) : List Int := (S.filter fun q => decide (6 ≤ t - q.heard)).map (·.id)

/-- The contracts: Ses w ow b br made ticks nm S: the Sessions in block b, of broker br, has made so many, is at that tick, nm calls at most turned it; the sessions S, by rising number; what it owns is among ow. -/
structure SF (Ses : World → List Nat → Nat → Int → Nat → Int → Nat → List Sq → Prop) : Prop where
  turn : ∀ {l : List Nat} {w w' : World} {ow : List Nat} {b : Nat} {br : Int} {made : Nat} {ticks : Int} {nm : Nat} {S : List Sq}, Ses w ow b br made ticks nm S → Turn l w w' → (∀ k ∈ l, k ∉ ow) → Ses w' ow b br made ticks nm S
  tight : ∀ {w : World} {ow : List Nat} {b : Nat} {br : Int} {made : Nat} {ticks : Int} {nm : Nat} {S : List Sq}, Ses w ow b br made ticks nm S → Ses w (ow.filter fun k => decide (k < w.heap.size)) b br made ticks nm S
  new : ∀ (br : Int) (w : World), 1 ≤ br ∧ br ≤ 8 → Calls Tryz.prog 26 #[.int .i64 br] w fun e w' => ∃ b ow, e = .returned (.pointer (some ⟨b, 0, none⟩)) ∧ Ses w' ow b br 0 0 0 [] ∧ (∀ k ∈ ow, w.heap.size ≤ k) ∧ Turn [] w w'
  open_ok : ∀ {w : World} {ow : List Nat} {b : Nat} {br : Int} {made : Nat} {ticks : Int} {nm : Nat} {S : List Sq}, Ses w ow b br made ticks nm S → S.length < 20 → made ≤ 1000 → nm ≤ 1000 →
    Calls Tryz.prog 28 #[.pointer (some ⟨b, 0, none⟩)] w fun e w' => ∃ ow', e = .returned (.tuple #[.int .i64 (makeZ br ((made : Int) + 1)), .bool true]) ∧ Ses w' ow' b br (made + 1) ticks (nm + 1) (S ++ [⟨makeZ br ((made : Int) + 1), 0, ticks⟩]) ∧ Stp ow ow' w w'
  open_full : ∀ {w : World} {ow : List Nat} {b : Nat} {br : Int} {made : Nat} {ticks : Int} {nm : Nat} {S : List Sq}, Ses w ow b br made ticks nm S → 20 ≤ S.length → made ≤ 1000 → nm ≤ 1000 →
    Calls Tryz.prog 28 #[.pointer (some ⟨b, 0, none⟩)] w fun e w' => ∃ ow', e = .returned (.tuple #[.int .i64 0, .bool false]) ∧ Ses w' ow' b br made ticks (nm + 1) S ∧ Stp ow ow' w w'
  touch_is : ∀ {w : World} {ow : List Nat} {b : Nat} {br : Int} {made : Nat} {ticks : Int} {nm : Nat} {A B : List Sq} {q : Sq}, Ses w ow b br made ticks nm (A ++ q :: B) → nm ≤ 1000 →
    Calls Tryz.prog 29 #[.pointer (some ⟨b, 0, none⟩), .int .i64 q.id] w fun e w' => ∃ ow', e = .returned (.bool true) ∧ Ses w' ow' b br made ticks (nm + 1) (A ++ ⟨q.id, q.tid, ticks⟩ :: B) ∧ Stp ow ow' w w'
  touch_none : ∀ {w : World} {ow : List Nat} {b : Nat} {br : Int} {made : Nat} {ticks : Int} {nm : Nat} {S : List Sq} {x : Int}, Ses w ow b br made ticks nm S → nm ≤ 1000 → inI64 x → (∀ q ∈ S, q.id ≠ x) →
    Calls Tryz.prog 29 #[.pointer (some ⟨b, 0, none⟩), .int .i64 x] w fun e w' => ∃ ow', e = .returned (.bool false) ∧ Ses w' ow' b br made ticks (nm + 1) S ∧ Stp ow ow' w w'
  bind_is : ∀ {w : World} {ow : List Nat} {b : Nat} {br : Int} {made : Nat} {ticks : Int} {nm : Nat} {A B : List Sq} {q : Sq} {t : Int}, Ses w ow b br made ticks nm (A ++ q :: B) → nm ≤ 1000 → inI64 t → (t = 0 ∨ ∀ r ∈ A ++ B, r.tid ≠ t) →
    Calls Tryz.prog 30 #[.pointer (some ⟨b, 0, none⟩), .int .i64 q.id, .int .i64 t] w fun e w' => ∃ ow', e = .returned (.bool true) ∧ Ses w' ow' b br made ticks (nm + 1) (A ++ ⟨q.id, t, ticks⟩ :: B) ∧ Stp ow ow' w w'
  bind_other : ∀ {w : World} {ow : List Nat} {b : Nat} {br : Int} {made : Nat} {ticks : Int} {nm : Nat} {S : List Sq} {x t : Int}, Ses w ow b br made ticks nm S → nm ≤ 1000 → inI64 x → inI64 t → ((∀ q ∈ S, q.id ≠ x) ∨ (t ≠ 0 ∧ ∃ q ∈ S, q.tid = t ∧ q.id ≠ x)) →
    Calls Tryz.prog 30 #[.pointer (some ⟨b, 0, none⟩), .int .i64 x, .int .i64 t] w fun e w' => ∃ ow', e = .returned (.bool false) ∧ Ses w' ow' b br made ticks (nm + 1) S ∧ Stp ow ow' w w'
  tid_is : ∀ {w : World} {ow : List Nat} {b : Nat} {br : Int} {made : Nat} {ticks : Int} {nm : Nat} {S : List Sq} {q : Sq}, Ses w ow b br made ticks nm S → q ∈ S →
    Calls Tryz.prog 33 #[.pointer (some ⟨b, 0, none⟩), .int .i64 q.id] w fun e w' => e = .returned (.int .i64 q.tid) ∧ Turn [] w w'
  tid_none : ∀ {w : World} {ow : List Nat} {b : Nat} {br : Int} {made : Nat} {ticks : Int} {nm : Nat} {S : List Sq} {x : Int}, Ses w ow b br made ticks nm S → inI64 x → (∀ q ∈ S, q.id ≠ x) →
    Calls Tryz.prog 33 #[.pointer (some ⟨b, 0, none⟩), .int .i64 x] w fun e w' => e = .returned (.int .i64 0) ∧ Turn [] w w'
  of_is : ∀ {w : World} {ow : List Nat} {b : Nat} {br : Int} {made : Nat} {ticks : Int} {nm : Nat} {S : List Sq} {q : Sq}, Ses w ow b br made ticks nm S → q ∈ S → q.tid ≠ 0 →
    Calls Tryz.prog 34 #[.pointer (some ⟨b, 0, none⟩), .int .i64 q.tid] w fun e w' => e = .returned (.int .i64 q.id) ∧ Turn [] w w'
  of_none : ∀ {w : World} {ow : List Nat} {b : Nat} {br : Int} {made : Nat} {ticks : Int} {nm : Nat} {S : List Sq} {t : Int}, Ses w ow b br made ticks nm S → inI64 t → (t = 0 ∨ ∀ q ∈ S, q.tid ≠ t) →
    Calls Tryz.prog 34 #[.pointer (some ⟨b, 0, none⟩), .int .i64 t] w fun e w' => e = .returned (.int .i64 0) ∧ Turn [] w w'
  close_is : ∀ {w : World} {ow : List Nat} {b : Nat} {br : Int} {made : Nat} {ticks : Int} {nm : Nat} {A B : List Sq} {q : Sq}, Ses w ow b br made ticks nm (A ++ q :: B) → nm ≤ 1000 →
    Calls Tryz.prog 31 #[.pointer (some ⟨b, 0, none⟩), .int .i64 q.id] w fun e w' => ∃ ow', e = .returned (.tuple #[.int .i64 q.tid, .bool true]) ∧ Ses w' ow' b br made ticks (nm + 1) (A ++ B) ∧ Stp ow ow' w w'
  close_none : ∀ {w : World} {ow : List Nat} {b : Nat} {br : Int} {made : Nat} {ticks : Int} {nm : Nat} {S : List Sq} {x : Int}, Ses w ow b br made ticks nm S → nm ≤ 1000 → inI64 x → (∀ q ∈ S, q.id ≠ x) →
    Calls Tryz.prog 31 #[.pointer (some ⟨b, 0, none⟩), .int .i64 x] w fun e w' => ∃ ow', e = .returned (.tuple #[.int .i64 0, .bool false]) ∧ Ses w' ow' b br made ticks (nm + 1) S ∧ Stp ow ow' w w'
  tick : ∀ {w : World} {ow : List Nat} {b : Nat} {br : Int} {made : Nat} {ticks : Int} {nm : Nat} {S : List Sq}, Ses w ow b br made ticks nm S → ticks ≤ 1000 → nm ≤ 1000 →
    Calls Tryz.prog 32 #[.pointer (some ⟨b, 0, none⟩)] w fun e w' => ∃ ow' ao c, e = .returned (.slice ao (silS (ticks + 1) S).length c) ∧ w'.ownsRow 0 2 1 (.slice ao (silS (ticks + 1) S).length c) (silS (ticks + 1) S).length (i64s (silS (ticks + 1) S)) ∧ Ses w' ow' b br made (ticks + 1) (nm + 1) S ∧ Stp ow ow' w w'
  /-- By rising number, of this broker; no transaction is two sessions'. -/
  ris : ∀ {w : World} {ow : List Nat} {b : Nat} {br : Int} {made : Nat} {ticks : Int} {nm : Nat} {S : List Sq}, Ses w ow b br made ticks nm S → (S.Pairwise fun p q => p.id < q.id) ∧ (∀ q ∈ S, ∃ i : Nat, 1 ≤ i ∧ i ≤ made ∧ q.id = makeZ br (i : Int)) ∧ ∀ q ∈ S, 0 ≤ q.heard ∧ q.heard ≤ ticks
  open_nil : ∀ w : World, Calls Tryz.prog 28 #[.pointer none] w fun e w' => e = .returned (.tuple #[.int .i64 0, .bool false]) ∧ Turn [] w w'
  touch_nil : ∀ (x : Int) (w : World), inI64 x → Calls Tryz.prog 29 #[.pointer none, .int .i64 x] w fun e w' => e = .returned (.bool false) ∧ Turn [] w w'
  bind_nil : ∀ (x t : Int) (w : World), inI64 x → inI64 t → Calls Tryz.prog 30 #[.pointer none, .int .i64 x, .int .i64 t] w fun e w' => e = .returned (.bool false) ∧ Turn [] w w'
  tid_nil : ∀ (x : Int) (w : World), inI64 x → Calls Tryz.prog 33 #[.pointer none, .int .i64 x] w fun e w' => e = .returned (.int .i64 0) ∧ Turn [] w w'
  of_nil : ∀ (x : Int) (w : World), inI64 x → Calls Tryz.prog 34 #[.pointer none, .int .i64 x] w fun e w' => e = .returned (.int .i64 0) ∧ Turn [] w w'
  close_nil : ∀ (x : Int) (w : World), inI64 x → Calls Tryz.prog 31 #[.pointer none, .int .i64 x] w fun e w' => e = .returned (.tuple #[.int .i64 0, .bool false]) ∧ Turn [] w w'
  tick_nil : ∀ w : World, Calls Tryz.prog 32 #[.pointer none] w fun e w' => ∃ ao c, e = .returned (.slice ao 0 c) ∧ Turn [] w w'

/-- A Sessions that is a law's own. -/
def Sw (Ses : World → List Nat → Nat → Int → Nat → Int → Nat → List Sq → Prop) (w wr : World) (b : Nat) (br : Int) (made : Nat) (ticks : Int) (nm : Nat) (S : List Sq) : Prop :=
  ∃ ow, Ses wr ow b br made ticks nm S ∧ (∀ k ∈ ow, w.heap.size ≤ k) ∧ Below w.heap.size w wr

variable {Ses : World → List Nat → Nat → Int → Nat → Int → Nat → List Sq → Prop}

theorem Sw.bel {w wr : World} {b : Nat} {br : Int} {made : Nat} {ticks : Int} {nm : Nat} {S : List Sq} (h : Sw Ses w wr b br made ticks nm S) : Below w.heap.size w wr := h.choose_spec.2.2

theorem Sw.step {w wr w' : World} {ow ow' : List Nat} {b : Nat} {br : Int} {made : Nat} {ticks : Int} {nm : Nat} {S : List Sq} (hl : ∀ k ∈ ow, w.heap.size ≤ k) (hb : Below w.heap.size w wr) (h : Ses w' ow' b br made ticks nm S) (s : Stp ow ow' wr w') : Sw Ses w w' b br made ticks nm S :=
  ⟨ow', h, fun k hk => by
    rcases s.new k hk with h1 | h1
    · exact hl k h1
    · exact Nat.le_trans hb.size h1, hb.trans (s.turn.below hl hb.size)⟩

theorem Sw.quiet (F : SF Ses) {w wr w' : World} {b : Nat} {br : Int} {made : Nat} {ticks : Int} {nm : Nat} {S : List Sq} (h : Sw Ses w wr b br made ticks nm S) (t : Turn [] wr w') : Sw Ses w w' b br made ticks nm S := by
  obtain ⟨ow, h1, h2, h3⟩ := h
  exact ⟨ow, F.turn h1 t (by simp), h2, h3.trans (t.belowAll.mono h3.size)⟩

/-- What is newer than the Sessions turns: it stays. -/
theorem Sw.over (F : SF Ses) {w wr w2 w' : World} {b : Nat} {br : Int} {made : Nat} {ticks : Int} {nm : Nat} {S : List Sq} {l : List Nat} (h : Sw Ses w wr b br made ticks nm S) (t : Turn [] wr w2) (hl : ∀ k ∈ l, wr.heap.size ≤ k) (t2 : Turn l w2 w') : Sw Ses w w' b br made ticks nm S := by
  obtain ⟨ow, h1, h2, h3⟩ := h
  exact ⟨_, F.turn (F.turn (F.tight h1) t (by simp)) t2 (fun k hk hm => by have := hl k hk; have := List.mem_filter.1 hm; simp at this; omega), fun k hk => h2 k (List.mem_filter.1 hk).1, h3.trans ((t.trans t2 (l' := l) (fun i hi => .inr (hl i hi))).belowAll.mono h3.size)⟩

theorem Sw.ris (F : SF Ses) {w wr : World} {b : Nat} {br : Int} {made : Nat} {ticks : Int} {nm : Nat} {S : List Sq} (h : Sw Ses w wr b br made ticks nm S) : (S.Pairwise fun p q => p.id < q.id) ∧ (∀ q ∈ S, ∃ i : Nat, 1 ≤ i ∧ i ≤ made ∧ q.id = makeZ br (i : Int)) ∧ ∀ q ∈ S, 0 ≤ q.heard ∧ q.heard ≤ ticks := F.ris h.choose_spec.1

theorem sw_new (F : SF Ses) {w wr : World} (hb : Below w.heap.size w wr) (br : Int) (h : 1 ≤ br ∧ br ≤ 8) : Calls Tryz.prog 26 #[.int .i64 br] wr fun e w' => ∃ b, e = .returned (.pointer (some ⟨b, 0, none⟩)) ∧ Sw Ses w w' b br 0 0 0 [] ∧ Turn [] wr w' := by
  refine (F.new br wr h).mono ?_
  rintro e w' ⟨b, ow, rfl, h, hl, t⟩
  exact ⟨b, rfl, ⟨ow, h, fun k hk => Nat.le_trans hb.size (hl k hk), hb.trans (t.belowAll.mono hb.size)⟩, t⟩

end Go.Proofs.YtjmainefmiefcaaGreat


/-
  No bag.
-/
namespace Go.Proofs.YtjmainefmiefcaaGreat
open Go.RowKit

end Go.Proofs.YtjmainefmiefcaaGreat


/-
  A bag of texts in memory; the closure that find hands to sort.Find; find.
-/
namespace Go.Proofs.YtjmainefmiefcaaGreat.S
open Go.RowKit

theorem cell_new (w : World) (x : Value) (t : TypeId) : (w.alloc (.cells #[x] t)).cell? ⟨w.heap.size, 0, none⟩ = some x := by
  have h : (w.alloc (.cells #[x] t)).heap[w.heap.size]? = some (.cells #[x] t) := by
    show (w.heap.push (.cells #[x] t))[w.heap.size]? = _
    exact Array.getElem?_push_size
  unfold World.cell?
  rw [h]
  rfl

theorem enter_run {P : Program} {f : FuncId} {fn : Func} (hf : P.funcs[f]? = some fn) (hname : (fn.name == "runtime.NumGoroutine") = false) (hb : fn.body.isNone = false) (args : Array Value) (w : World) :
    (callFunc f args).run P w = .ok (.enter f args) w := by
  have h1 : (fn.name = "runtime.NumGoroutine") = False := by simpa using hname
  cases h2 : fn.body with
  | none => rw [h2] at hb; cases hb
  | some c => simp [callFunc, hf, h1, h2]

/-- A call through a function value, within a region. -/
theorem step_callv {P : Program} {ops : Array Oper} {o : Oper} {a : Act} {w : World} {K : Act → World → Prop} {Q : Exit → Act → World → Prop} {E : Prop} (hw : Region.wanted o (yielded ops a.tmps) = true)
    {x : Operand} {args : Array Operand} {ts : Array TypeId} (kf : FuncId) (cap vs : Array Value) (ho : o.op = .call { callee := .value x, args := args, argTypes := ts }) (hx : a.eval x = .func (.func kf) #[] cap) (hv : args.map a.eval = vs)
    (enter : (callFunc kf (vs ++ cap)).run P w = .ok (.enter kf (vs ++ cap)) w)
    (h : Calls P kf (vs ++ cap) w (fun e w' => ∃ v, e = .returned v ∧ K (a.put o.dst v) w')) : if Region.wanted o (yielded ops a.tmps) = true then Oper.wp P o a w K Q else E := by
  rw [if_pos hw]
  unfold Oper.wp execOp
  simp only [ho, resolve, hx, Deferred.ofValue, invoke, Sem.run_bind, Sem.run_pure, Result.andThen_ok, hv]
  have : #[] ++ vs ++ cap = vs ++ cap := by simp
  simp only [this, enter, Oper.upon_enter]
  refine h.mono ?_
  rintro e w' ⟨v, rfl, hk⟩
  exact hk

def kcells (K : List (ByteArray × Int)) : List Value := K.flatMap fun p => [.string p.1, .int .i64 p.2]

theorem kcells_length (K : List (ByteArray × Int)) : (kcells K).length = K.length * 2 := by
  induction K with
  | nil => rfl
  | cons p K ih => simp only [kcells, List.flatMap_cons, List.length_append, List.length_cons, List.length_nil] at ih ⊢; omega

theorem kcells_at : ∀ (K : List (ByteArray × Int)) (i : Nat) (h : i < K.length), (kcells K)[2 * i]? = some (.string K[i].1) ∧ (kcells K)[2 * i + 1]? = some (.int .i64 K[i].2)
  | p :: K, 0, _ => ⟨rfl, rfl⟩
  | p :: K, i + 1, h => by
    have ih := kcells_at K i (by simpa using h)
    have e : kcells (p :: K) = .string p.1 :: .int .i64 p.2 :: kcells K := rfl
    rw [e, show 2 * (i + 1) = 2 * i + 1 + 1 by omega, show 2 * i + 1 + 1 + 1 = (2 * i + 1) + 1 + 1 by omega]
    simpa using ih

def okS (_x : ByteArray) : Prop := True

def inI64 (x : Int) : Prop := -9223372036854775808 ≤ x ∧ x ≤ 9223372036854775807

/-- A bag of texts: its compare, its kinds. -/
structure BagI (w : World) (b : Nat) (fv v : Value) (K : List (ByteArray × Int)) : Prop where
  head : w.heap[b]? = some (.cells #[fv, v] 118)
  row : w.ownsRow 0 127 2 v K.length (kcells K)
  apart : v.ownBlock ≠ some b
  nums : ∀ p ∈ K, okS p.1 ∧ 1 ≤ p.2 ∧ p.2 ≤ 9223372036854775807
  few : K.length ≤ 1000

theorem BagI.turn {w w' : World} {b : Nat} {fv v : Value} {K : List (ByteArray × Int)} {l : List Nat} (h : BagI w b fv v K) (t : Turn l w w') (hb : b ∉ l) (hv : ∀ k, v.ownBlock = some k → k ∉ l) : BagI w' b fv v K :=
  ⟨t.heap h.head hb, ownsRow_turn h.row t hv, h.apart, h.nums, h.few⟩

theorem BagI.cells {w : World} {b : Nat} {fv v : Value} {K : List (ByteArray × Int)} (h : BagI w b fv v K) : w.cell? ⟨b, 0, none⟩ = some fv ∧ w.cell? ⟨b, 1, none⟩ = some v := by
  constructor <;> simp [World.cell?, h.head]

/-- The kinds' slice; where one of them stands. -/
theorem BagI.kinds {w : World} {b : Nat} {fv v : Value} {K : List (ByteArray × Int)} (h : BagI w b fv v K) :
    ∃ ao cap, v = .slice ao K.length cap ∧ K.length ≤ cap ∧ cap ≤ maxLen ∧ ∀ i (hi : i < K.length), ∃ g, ao = some ⟨g, 0, none⟩ ∧ w.cell? ⟨g, i * 2, none⟩ = some (.string K[i].1) ∧ w.cell? ⟨g, i * 2 + 1, none⟩ = some (.int .i64 K[i].2) := by
  rcases h.row.2 with ⟨rfl, h0⟩ | ⟨g, cap, cur, rfl, _, hg, hle, hmx, hsz, htk⟩
  · exact ⟨none, 0, by rw [h0], by omega, by unfold maxLen; omega, fun i hi => by omega⟩
  · refine ⟨_, cap, rfl, hle, hmx, fun i hi => ⟨g, rfl, ?_, ?_⟩⟩
    · have h1 := (kcells_at K i hi).1
      rw [← htk, List.getElem?_take_of_lt (by omega)] at h1
      rw [Nat.mul_comm] at h1
      simp [World.cell?, hg]
      simpa using h1
    · have h1 := (kcells_at K i hi).2
      rw [← htk, List.getElem?_take_of_lt (by omega)] at h1
      rw [Nat.mul_comm] at h1
      simp [World.cell?, hg]
      simpa using h1

/-- A function value that compares two numbers. -/
structure CmpOk (kc : FuncId) (cap : Array Value) (c : ByteArray → ByteArray → Int) (ok : World → Prop) : Prop where
  enter : ∀ args w, (callFunc kc args).run Tryz.prog w = .ok (.enter kc args) w
  calls : ∀ x y w, okS x → okS y → ok w → Calls Tryz.prog kc (#[.string x, .string y] ++ cap) w fun e w' => e = .returned (.int .i64 (c x y)) ∧ w' = w
  turn : ∀ w w', ok w → Turn [] w w' → ok w'
  small : ∀ x y, inI64 (c x y)

set_option maxHeartbeats 1000000 in
set_option maxRecDepth 100000 in
theorem find2_calls {w : World} {b pb px kc : Nat} {cap : Array Value} {v : Value} {K : List (ByteArray × Int)} {c : ByteArray → ByteArray → Int} {ok : World → Prop} (h : BagI w b (.func (.func kc) #[] cap) v K) (hc : CmpOk kc cap c ok) (hok : ok w) {x : ByteArray} (hx : okS x)
    (hpb : w.cell? ⟨pb, 0, none⟩ = some (.pointer (some ⟨b, 0, none⟩))) (hpx : w.cell? ⟨px, 0, none⟩ = some (.string x)) {i : Nat} (hi : i < K.length) :
    Calls Tryz.prog 107 #[.int .i64 (i : Int), .pointer (some ⟨pb, 0, none⟩), .pointer (some ⟨px, 0, none⟩)] w fun e w' => e = .returned (.int .i64 (c x K[i].1)) ∧ Turn [] w w' := by
  obtain ⟨ao, cp, rfl, hle, hmx, hat⟩ := h.kinds
  obtain ⟨g, rfl, hk0, -⟩ := hat i hi
  obtain ⟨c0, c1⟩ := h.cells
  obtain ⟨n, hn⟩ : ∃ n, n = K.length := ⟨_, rfl⟩
  have hfew := h.few
  have hy := (h.nums K[i] (List.getElem_mem hi)).1
  obtain ⟨y, hyy⟩ : ∃ y, y = K[i].1 := ⟨_, rfl⟩
  rw [← hyy] at hk0 hy ⊢
  rw [← hn] at c1 hi hle
  have hb : 0 ≤ (i : Int) ∧ (i : Int) < (n : Int) := by omega
  have CC := Lib.hid (hc.calls x y w.drew hx hy (hc.turn _ _ hok (Turn.drew [] w)))
  have EN := hc.enter
  clear hat h hn hfew hyy
  go_enter Tryz.func107, Tryz.ntmps107
  go_wp2_with fail
  go_region_held3 (fun w' => w'.cell? ⟨pb, 0, none⟩ = some (.pointer (some ⟨b, 0, none⟩)) ∧ w'.cell? ⟨px, 0, none⟩ = some (.string x) ∧ w'.cell? ⟨b, 0, none⟩ = some (.func (.func kc) #[] cap) ∧ w'.cell? ⟨b, 1, none⟩ = some (.slice (some ⟨g, 0, none⟩) n cp) ∧ w'.cell? ⟨g, i * 2, none⟩ = some (.string y))
    (go_keep)
    (first
      | (refine CC.out.mono ?_; rintro e w' ⟨rfl, rfl⟩))
  go_wp2
  go_ret
  exact ⟨rfl, Turn.drew [] w⟩

theorem eq_nilFunc (w : World) (fn : Fn) (first cap : Array Value) : (binOp .eql 92 (.func fn first cap) .nilFunc).run Tryz.prog w = .ok (.bool false) w := by kernel_rfl

theorem find1_idle (w : World) : CallsD Tryz.prog 105 #[] .returning w fun e u' w' => e = .returned (.tuple #[]) ∧ u' = .returning ∧ w' = w := by
  refine callsD_of_wpS Tryz.func105 rfl fun c₀ cs hu => ?_
  apply wpS_region
  cases c₀
  simp_all [wpOpsS, go_sem, recoverD, bodyPostS, results, Tryz.results105]

set_option maxHeartbeats 1000000 in
set_option maxRecDepth 100000 in
/-- find: the place m of x among the kinds, or where it would stand. -/
theorem find_calls {w : World} {b kc : Nat} {cap : Array Value} {v : Value} {K : List (ByteArray × Int)} {c : ByteArray → ByteArray → Int} {ok : World → Prop} (h : BagI w b (.func (.func kc) #[] cap) v K) (hc : CmpOk kc cap c ok) (hok : ok w) {x : ByteArray} (hx : okS x) {m : Nat} (hm : m ≤ K.length)
    (hlo : ∀ i (hi : i < K.length), i < m → 0 < c x K[i].1) (hhi : ∀ i (hi : i < K.length), m ≤ i → c x K[i].1 ≤ 0) :
    Calls Tryz.prog 83 #[.pointer (some ⟨b, 0, none⟩), .string x] w fun e w' => e = .returned (.tuple #[.int .i64 (m : Int), .bool (decide (m < K.length) && (c x (K.getD m (⟨#[]⟩, 0)).1 == 0)), .bool true]) ∧ Turn [] w w' := by
  have hmf : ∀ (fn : Fn) (first cap : Array Value) (w : World), (Instr.makeFunc fn first cap).run Tryz.prog w = .ok (.func fn first cap) w := fun _ _ _ _ => rfl
  obtain ⟨w2, hw2⟩ : ∃ w2, w2 = (w.alloc (.cells #[.pointer (some ⟨b, 0, none⟩)] 90)).alloc (.cells #[.string x] 9) := ⟨_, rfl⟩
  have t2 : Turn [] w w2 := by rw [hw2]; exact (Turn.alloc [] w _).trans (Turn.alloc [] _ _) (by simp)
  have h2 := h.turn t2 (by simp) (fun _ _ => by simp)
  have hpb : w2.cell? ⟨w.heap.size, 0, none⟩ = some (.pointer (some ⟨b, 0, none⟩)) := by
    rw [hw2]
    exact (Turn.alloc [] _ _).cell (cell_new w _ _) (by simp)
  have hpx : w2.cell? ⟨w.heap.size + 1, 0, none⟩ = some (.string x) := by
    rw [hw2, show w.heap.size + 1 = (w.alloc (.cells #[.pointer (some ⟨b, 0, none⟩)] 90)).heap.size by simp]
    exact cell_new _ _ _
  obtain ⟨ao, cp, rfl, hle, hmx, -⟩ := h.kinds
  obtain ⟨c0, c1⟩ := h2.cells
  obtain ⟨n, hn⟩ : ∃ n, n = K.length := ⟨_, rfl⟩
  have hfew := h.few
  have FC := Lib.hid (sortFind_calls 107 #[.pointer (some ⟨w.heap.size, 0, none⟩), .pointer (some ⟨w.heap.size + 1, 0, none⟩)] n m (fun i => c x (K.getD i (⟨#[]⟩, 0)).1) w2 (by omega) (by omega)
    (fun args wx => by
      exact enter_run Tryz.func107 (by kernel_rfl) (by kernel_rfl) args wx)
    (fun i wx hi tx => by
      have hi' : i < K.length := by omega
      have e : (K.getD i (⟨#[]⟩, 0)).1 = K[i].1 := by simp [List.getD, hi']
      rw [e]
      refine (find2_calls (h2.turn tx (by simp) (fun _ _ => by simp)) hc (hc.turn _ _ (hc.turn _ _ hok t2) tx) hx (tx.cell hpb (by simp)) (tx.cell hpx (by simp)) hi').mono ?_
      rintro e w' ⟨rfl, t⟩
      exact ⟨rfl, tx.trans t (by simp)⟩)
    (fun i hi => by
      have hi' : i < K.length := by omega
      have e : (K.getD i (⟨#[]⟩, 0)).1 = K[i].1 := by simp [List.getD, hi']
      show 0 < c x (K.getD i (⟨#[]⟩, 0)).1
      rw [e]
      exact hlo i hi' hi)
    (fun i hi hin => by
      have hi' : i < K.length := by omega
      have e : (K.getD i (⟨#[]⟩, 0)).1 = K[i].1 := by simp [List.getD, hi']
      show c x (K.getD i (⟨#[]⟩, 0)).1 ≤ 0
      rw [e]
      exact hhi i hi' hi))
  rw [← hn] at c1 ⊢
  subst hw2
  clear h h2 hlo hhi hm hn hc hok hx
  go_enter_defers Tryz.func83, Tryz.ntmps83
  go_wp2_with fail
  rw [eq_nilFunc]
  go_wp2_with fail
  refine FC.out.mono ?_
  rintro e w3 ⟨rfl, t3⟩
  obtain ⟨r, hr⟩ : ∃ r, r = (decide (m < n) && (c x (K.getD m (⟨#[]⟩, 0)).1 == 0)) := ⟨_, rfl⟩
  rw [← hr]
  have T3 := Lib.hid (Turn.trans t2 t3 (by simp))
  have HR := Lib.hid hr
  clear FC t3 t2 hpb hpx c0 c1 hr
  go_wp2_with fail
  refine leaves_cons (f := 105) (args := #[]) (by simp) (by simp [go_sem]) ?_
  refine (find1_idle _).mono ?_
  rintro e u' w'' ⟨rfl, rfl, rfl⟩
  rw [← HR.out]
  exact ⟨_, results_tmp3 rfl _ _ _, rfl, T3.out⟩

end Go.Proofs.YtjmainefmiefcaaGreat.S


/-
  What a bag of texts tells: New, Count, Len, Kinds, At, Each.
-/
namespace Go.Proofs.YtjmainefmiefcaaGreat.S
open Go.RowKit

set_option maxHeartbeats 1000000 in
set_option maxRecDepth 100000 in
theorem newI (kc : FuncId) (cap : Array Value) (w : World) : Calls Tryz.prog 58 #[.func (.func kc) #[] cap] w fun e w' => e = .returned (.pointer (some ⟨w.heap.size, 0, none⟩)) ∧ BagI w' w.heap.size (.func (.func kc) #[] cap) (.slice none 0 0) [] ∧ Turn [] w w' := by
  go_enter Tryz.func58, Tryz.ntmps58
  go_wp2_with fail
  rw [eq_nilFunc]
  go_wp2_with fail
  go_ret
  exact ⟨rfl, ⟨heap_alloc_new w _, World.ownsRow_nil _ _ _ _, (by intro e; cases e), by simp, by simp⟩, Turn.alloc [] w _⟩

set_option maxHeartbeats 1000000 in
set_option maxRecDepth 100000 in
theorem kindsI {w : World} {b : Nat} {fv v : Value} {K : List (ByteArray × Int)} (h : BagI w b fv v K) : Calls Tryz.prog 64 #[.pointer (some ⟨b, 0, none⟩)] w fun e w' => e = .returned (.int .i64 (K.length : Int)) ∧ w' = w := by
  obtain ⟨ao, cp, rfl, hle, hmx, -⟩ := h.kinds
  obtain ⟨c0, c1⟩ := h.cells
  obtain ⟨n, hn⟩ : ∃ n, n = K.length := ⟨_, rfl⟩
  rw [← hn] at c1 ⊢
  clear h hn hle
  go_enter Tryz.func64, Tryz.ntmps64
  go_wp2
  go_ret
  exact ⟨rfl, rfl⟩

/-- How many in all. -/
def sumK (K : List (ByteArray × Int)) : Int := K.foldl (fun a p => plusZ a p.2) 0

theorem sumK_nonneg : ∀ (K : List (ByteArray × Int)) (a : Int), (∀ p ∈ K, 1 ≤ p.2 ∧ p.2 ≤ 9223372036854775807) → 0 ≤ a ∧ a ≤ 9223372036854775807 → 0 ≤ K.foldl (fun a p => plusZ a p.2) a ∧ K.foldl (fun a p => plusZ a p.2) a ≤ 9223372036854775807
  | [], a, _, ha => ha
  | p :: K, a, h, ha => by
    rw [List.foldl_cons]
    refine sumK_nonneg K _ (fun q hq => h q (by simp [hq])) ?_
    have := h p (by simp)
    unfold plusZ
    split <;> omega

set_option maxHeartbeats 1000000 in
set_option maxRecDepth 100000 in
theorem lenI {w : World} {b : Nat} {fv v : Value} {K : List (ByteArray × Int)} (h : BagI w b fv v K) : Calls Tryz.prog 63 #[.pointer (some ⟨b, 0, none⟩)] w fun e w' => e = .returned (.int .i64 (sumK K)) ∧ Turn [] w w' := by
  obtain ⟨ao, cp, rfl, hle, hmx, hat⟩ := h.kinds
  obtain ⟨c0, c1⟩ := h.cells
  obtain ⟨n, hn⟩ : ∃ n, n = K.length := ⟨_, rfl⟩
  have hfew := h.few
  have HN := Lib.hid hn
  have HAT := Lib.hid hat
  have HNU := Lib.hid h.nums
  rw [← hn] at c1 hle hfew
  clear h hn hat
  go_enter Tryz.func63, Tryz.ntmps63
  go_wp2_with fail
  go_loopw [3, 12] (fun va vk wx => ∃ (k : Nat) (a : Int), k ≤ n ∧ vk = .int .i64 (k : Int) ∧ va = .int .i64 a ∧ a = sumK (K.take k) ∧ wx = w) (fun _ vk _ => n - (intOf vk).toNat)
  case atStart => exact ⟨0, 0, by omega, rfl, rfl, by simp [sumK], rfl⟩
  case round =>
    obtain ⟨k, a, hk, rfl, rfl, ha, rfl⟩ := hrel
    by_cases hkn : k < n
    · have hkl : k < K.length := by rw [← HN.out]; exact hkn
      obtain ⟨g, rfl, -, hk1⟩ := HAT.out k hkl
      have hp := HNU.out K[k] (List.getElem_mem hkl)
      have hab := sumK_nonneg (K.take k) 0 (fun p hp => (HNU.out p (List.mem_of_mem_take hp)).2) (by omega)
      obtain ⟨y, hy⟩ : ∃ y, y = K[k].2 := ⟨_, rfl⟩
      have HA : Hid (plusZ a y = sumK (K.take (k + 1))) := Lib.hid (by
        rw [List.take_succ_eq_append_getElem hkl, ha, hy]
        unfold sumK
        rw [List.foldl_append]
        rfl)
      have ha2 : 0 ≤ a ∧ a ≤ 9223372036854775807 := by rw [ha]; exact hab
      have PC := Lib.hid (plus_calls a y ha2 (by rw [hy]; omega) wr)
      rw [← hy] at hk1
      have hb : 0 ≤ (k : Int) ∧ (k : Int) < (n : Int) := by omega
      clear ha hab hp hy ha2
      go_wp2_with fail
      refine PC.out.mono ?_
      rintro e w' ⟨rfl, rfl⟩
      clear PC
      go_wp2
      go_roundw
      case rel => exact ⟨k + 1, plusZ a y, by omega, by go_num, rfl, HA.out, trivial⟩
      case measure => simp [intOf]; omega
    · have hkn2 : k = n := by omega
      have HA : Hid (a = sumK K) := Lib.hid (by rw [ha, hkn2, HN.out, List.take_length])
      clear ha hkn2
      go_wp2
      go_ret
      exact ⟨ret_int HA.out, Turn.refl _ _⟩

/-- Which is at a place. -/
def atK : List (ByteArray × Int) → Int → Option ByteArray
  | [], _ => none
  | p :: K, i => if i < p.2 then some p.1 else atK K (i - p.2)

theorem atI_neg {b : Nat} (i : Int) (hi : i < 0) (w : World) : Calls Tryz.prog 62 #[.pointer (some ⟨b, 0, none⟩), .int .i64 i] w fun e w' => e = .returned (.tuple #[.string ⟨#[]⟩, .bool false]) ∧ w' = w := by
  have hi2 : decide (i < 0) = true := by simpa using hi
  go_enter Tryz.func62, Tryz.ntmps62
  go_wp2
  go_ret2
  exact ⟨rfl, rfl⟩

set_option maxHeartbeats 1000000 in
set_option maxRecDepth 100000 in
theorem atI {w : World} {b : Nat} {fv v : Value} {K : List (ByteArray × Int)} (h : BagI w b fv v K) (i : Int) (hi : 0 ≤ i ∧ i ≤ 9223372036854775807) : Calls Tryz.prog 62 #[.pointer (some ⟨b, 0, none⟩), .int .i64 i] w fun e w' => e = .returned (.tuple #[.string ((atK K i).getD ⟨#[]⟩), .bool (atK K i).isSome]) ∧ w' = w := by
  have hi2 : decide (i < 0) = false := by simp; omega
  obtain ⟨ao, cp, rfl, hle, hmx, hat⟩ := h.kinds
  obtain ⟨c0, c1⟩ := h.cells
  obtain ⟨n, hn⟩ : ∃ n, n = K.length := ⟨_, rfl⟩
  have hfew := h.few
  have HN := Lib.hid hn
  have HAT := Lib.hid hat
  have HNU := Lib.hid h.nums
  obtain ⟨z, hz⟩ : ∃ z, z = atK K i := ⟨_, rfl⟩
  have HZ := Lib.hid hz
  rw [← hn] at c1 hle hfew
  rw [← hz]
  clear h hn hat hz
  go_enter Tryz.func62, Tryz.ntmps62
  go_wp2_with fail
  go_loopw [1, 20] (fun vi vk wx => ∃ (k : Nat) (j : Int), k ≤ n ∧ vk = .int .i64 (k : Int) ∧ vi = .int .i64 j ∧ (0 ≤ j ∧ j ≤ 9223372036854775807) ∧ z = atK (K.drop k) j ∧ wx = w) (fun _ vk _ => n - (intOf vk).toNat)
  case atStart => exact ⟨0, i, by omega, rfl, rfl, hi, HZ.out, rfl⟩
  case round =>
    obtain ⟨k, j, hk, rfl, rfl, hj, hzk, rfl⟩ := hrel
    clear hi2 hi
    by_cases hkn : k < n
    · have hkl : k < K.length := by rw [← HN.out]; exact hkn
      obtain ⟨g, rfl, hk0, hk1⟩ := HAT.out k hkl
      have hp := HNU.out K[k] (List.getElem_mem hkl)
      rw [List.drop_eq_getElem_cons hkl] at hzk
      obtain ⟨x, hx⟩ : ∃ x, x = K[k].1 := ⟨_, rfl⟩
      obtain ⟨y, hy⟩ : ∃ y, y = K[k].2 := ⟨_, rfl⟩
      rw [← hx] at hk0
      rw [← hy] at hk1 hp
      have hb : 0 ≤ (k : Int) ∧ (k : Int) < (n : Int) := by omega
      by_cases hjy : j < y
      · have HE : Hid (z = some x) := Lib.hid (by rw [hzk, hx]; unfold atK; rw [if_pos (by rw [← hy]; exact hjy)])
        clear hzk hx hy hp
        go_wp2
        go_ret2
        exact ⟨by rw [HE.out]; rfl, rfl⟩
      · have HE : Hid (z = atK (K.drop (k + 1)) (j - y)) := Lib.hid (by rw [hzk, hy]; conv => lhs; unfold atK
                                                                        rw [if_neg (by rw [← hy]; exact hjy)])
        clear hzk hx hy
        go_wp2
        go_roundw
        case rel => exact ⟨k + 1, j - y, by omega, by go_num, by go_num, by omega, HE.out, trivial⟩
        case measure => simp [intOf]; omega
    · have HE : Hid (z = none) := Lib.hid (by rw [hzk, List.drop_eq_nil_of_le (by rw [← HN.out]; omega)]; rfl)
      clear hzk
      go_wp2
      go_ret2
      exact ⟨by rw [HE.out]; rfl, rfl⟩

end Go.Proofs.YtjmainefmiefcaaGreat.S


/-
  Rows of things of more cells than one: copy; a row of kinds.
-/
namespace Go.Proofs.YtjmainefmiefcaaGreat.S
open Go.RowKit

theorem Turn.setRow {l : List Nat} (w : World) {g : Nat} (hg : g ∈ l) (cs : Array Value) : Turn l w (w.setRow g cs) := by
  refine ⟨rfl, rfl, rfl, by simp [World.setRow], fun k hk hn => ?_⟩
  simp only [World.setRow, Array.getElem?_modify]
  rw [if_neg (by intro e; exact hn (by rw [← e]; exact hg))]

/-- copy(d, s) of things of sz cells each. -/
theorem run_copy_rowN {P : Program} (w : World) (dT sT ty elem : TypeId) (g o dLen dCap : Nat) (a : Addr) (sLen sCap sz m : Nat) (cur : Array Value) (t : TypeId) (cs : List Value)
    (hu : P.underlying dT = some (.slice elem)) (hs : (P.info? elem).map (·.size) = some sz)
    (hg : w.heap[g]? = some (.cells cur t (0, 0))) (hm : m = Nat.min sLen dLen) (hn : cs.length = m * sz)
    (hsrc : ∀ j v, cs[j]? = some v → w.cell? (a.add j) = some v) (hfit : o + cs.length ≤ cur.size) (h1 : ∀ v ∈ cs, v.oneCell' = true) :
    (Builtin.copy_ #[dT, sT] ty #[.slice (some ⟨g, o, none⟩) dLen dCap, .slice (some a) sLen sCap]).run P w =
      .ok (.int .i64 (m : Int)) (w.setRow g (cur.toList.take o ++ cs ++ cur.toList.drop (o + cs.length)).toArray) := by
  have hl := run_loadCells_list (P := P) w a cs hsrc
  have hst := run_storeCells_at P g o t cs 0 cur w hg (by simpa using hfit) h1
  cases hq : P.info? elem with
  | none => simp [hq] at hs
  | some i =>
    have hi : i.size = sz := by simpa [hq] using hs
    rw [hn] at hl
    simp [Builtin.copy_, run_underlying hu, Builtin.lenOf, Builtin.firstCells, sizeOf, typeInfo, hq, hi, ← hm, hl, hst, goInt]

theorem kcells_append (A B : List (ByteArray × Int)) : kcells (A ++ B) = kcells A ++ kcells B := by simp [kcells]

theorem kcells_take : ∀ (K : List (ByteArray × Int)) (i : Nat), kcells (K.take i) = (kcells K).take (i * 2)
  | [], i => by simp [kcells]
  | p :: K, 0 => by simp [kcells]
  | p :: K, i + 1 => by
    have ih := kcells_take K i
    have e : kcells (p :: K) = .string p.1 :: .int .i64 p.2 :: kcells K := rfl
    have e2 : kcells (p :: K.take i) = .string p.1 :: .int .i64 p.2 :: kcells (K.take i) := rfl
    rw [List.take_succ_cons, e2, e, show (i + 1) * 2 = i * 2 + 1 + 1 by omega, List.take_succ_cons, List.take_succ_cons, ih]

theorem kcells_drop : ∀ (K : List (ByteArray × Int)) (i : Nat), kcells (K.drop i) = (kcells K).drop (i * 2)
  | [], i => by simp [kcells]
  | p :: K, 0 => by simp
  | p :: K, i + 1 => by
    have ih := kcells_drop K i
    have e : kcells (p :: K) = .string p.1 :: .int .i64 p.2 :: kcells K := rfl
    rw [List.drop_succ_cons, e, show (i + 1) * 2 = i * 2 + 1 + 1 by omega, List.drop_succ_cons, List.drop_succ_cons, ih]

theorem kcells_one (K : List (ByteArray × Int)) : ∀ v ∈ kcells K, v.oneCell' = true := by
  intro v hv
  obtain ⟨p, -, hp⟩ := List.mem_flatMap.1 hv
  simp at hp
  rcases hp with rfl | rfl <;> rfl

theorem Tryz.krow : (Tryz.prog.info? 127).map (fun i => (i.zero, i.size, i.bytes)) = some (some (.agg #[.string ⟨#[]⟩, .int .i64 0]), 2, 24) := by kernel_rfl

theorem Tryz.ksize : (Tryz.prog.info? 127).map (·.size) = some 2 := by kernel_rfl

/-- What Insert makes of a row: in the middle of K. -/
def insK (K : List (ByteArray × Int)) (i : Nat) (p : ByteArray × Int) : List (ByteArray × Int) := K.take i ++ p :: K.drop i

theorem insK_end (K : List (ByteArray × Int)) (p : ByteArray × Int) : insK K K.length p = K ++ [p] := by simp [insK]

theorem insK_length {K : List (ByteArray × Int)} {i : Nat} (h : i ≤ K.length) (p : ByteArray × Int) : (insK K i p).length = K.length + 1 := by simp [insK]; omega

theorem kcells_ins (K : List (ByteArray × Int)) (i : Nat) (p : ByteArray × Int) : kcells (insK K i p) = (kcells K).take (i * 2) ++ [.string p.1, .int .i64 p.2] ++ (kcells K).drop (i * 2) := by
  rw [insK, kcells_append, kcells_take, ← kcells_drop, List.append_assoc]
  rfl

set_option maxHeartbeats 2000000 in
set_option maxRecDepth 100000 in
/-- slices.Insert at the end. -/
theorem insert_end {w : World} {v : Value} {K : List (ByteArray × Int)} (h : w.ownsRow 0 127 2 v K.length (kcells K)) (hfew : K.length ≤ 1000) (p : ByteArray × Int) {tb : Nat}
    (hx : w.cell? ⟨tb, 0, none⟩ = some (.string p.1)) (hy : w.cell? ⟨tb, 1, none⟩ = some (.int .i64 p.2)) :
    Calls Tryz.prog 85 #[v, .int .i64 (K.length : Int), .slice (some ⟨tb, 0, none⟩) 1 1] w fun e w' =>
      ∃ v', e = .returned v' ∧ w'.ownsRow 0 127 2 v' (K.length + 1) (kcells (insK K K.length p)) ∧ (v'.ownBlock = v.ownBlock ∨ v'.ownBlock = some w.heap.size) ∧ Turn v.ownBlock.toList w w' := by
  obtain ⟨i0, hi, hz0, hz1, hz2⟩ := info_parts Tryz.krow
  have HR := Lib.hid h
  obtain ⟨n, hn⟩ : ∃ n, n = K.length := ⟨_, rfl⟩
  have HN := Lib.hid hn
  have HI := Lib.hid hi
  have HX : Hid (∀ j u, [Value.string p.1, .int .i64 p.2][j]? = some u → w.cell? ((⟨tb, 0, none⟩ : Addr).add j) = some u) := Lib.hid (fun j u hj => by
    match j, hj with
    | 0, hj => simp at hj; rw [← hj, Addr.add_lit]; exact hx
    | 1, hj => simp at hj; rw [← hj, Addr.add_lit]; exact hy
    | j + 2, hj => simp at hj)
  have HO : Hid (∀ u ∈ [Value.string p.1, .int .i64 p.2], u.oneCell' = true) := Lib.hid (by intro u hu; simp at hu; rcases hu with rfl | rfl <;> rfl)
  have hvs : ∃ ao cap, v = .slice ao K.length cap ∧ K.length ≤ cap ∧ cap ≤ maxLen := by
    rcases h.2 with ⟨rfl, h0⟩ | ⟨g, cap, cur, rfl, _, _, hle, hmx, _⟩
    · exact ⟨none, 0, by rw [h0], by omega, by unfold maxLen; omega⟩
    · exact ⟨_, cap, rfl, hle, hmx⟩
  obtain ⟨ao, cap, rfl, hle, hmx⟩ := hvs
  unfold maxLen at hmx
  rw [← hn] at hle hfew ⊢
  obtain ⟨ob, hob⟩ : ∃ ob, ob = (Value.slice ao n cap).ownBlock := ⟨_, rfl⟩
  have HE := Lib.hid (show ∀ c', (Value.slice ao n c').ownBlock = ob from fun _ => by rw [hob]; cases ao <;> rfl)
  rw [← hob]
  clear h hn hi hx hy hob
  go_enter Tryz.func85, Tryz.ntmps85
  go_wp2_with (at_builtin; refine wpList_append_own_at w rfl (.tmp 23) (.tmp 24) 116 rfl 0 127 i0 _ 2 24 Tryz.underlying116 HI.out hz0 hz1 hz2 rfl (by decide) (.slice ao n cap) n (kcells K) rfl (by rw [HN.out]; exact HR.out) ⟨tb, 0, none⟩ 1 1 [.string p.1, .int .i64 p.2] rfl rfl HX.out HO.out (by unfold maxLen; omega) (by omega) (Nat.zero_le _) ?_)
  all_goals
    intro v' w' h1 h2 _ h4
    rw [HE.out] at h2 h4
    have H1 : Hid (w'.ownsRow 0 127 2 v' (n + 1) (kcells (insK K n p))) := Lib.hid (by rw [HN.out, insK_end, kcells_append, ← HN.out]; exact h1)
    have H2 := Lib.hid (Turn.grown h2 (fun k hk => .inl (Option.mem_toList.2 hk)))
    have H4 := Lib.hid h4
    clear h1 h2 h4
    go_wp2
    go_ret
    exact ⟨v', rfl, H1.out, H4.out, H2.out⟩

/-- A row whose tail goes two cells on, and two cells take its place. -/
theorem shift_row {C L : List Value} {i n : Nat} {a b : Value} (hL : C.take (n * 2) = L) (hl : L.length = n * 2) (hi : i < n) (hC : (n + 1) * 2 ≤ C.length) {C1 C2 : List Value}
    (h1 : C1 = C.take ((i + 1) * 2) ++ L.drop (i * 2) ++ C.drop ((i + 1) * 2 + (L.drop (i * 2)).length)) (h2 : C2 = C1.take (i * 2) ++ [a, b] ++ C1.drop (i * 2 + 2)) :
    C1.length = C.length ∧ C2.length = C.length ∧ C2.take ((n + 1) * 2) = L.take (i * 2) ++ [a, b] ++ L.drop (i * 2) := by
  have hdl : (L.drop (i * 2)).length = n * 2 - i * 2 := by rw [List.length_drop, hl]
  have htl : (C.take ((i + 1) * 2)).length = (i + 1) * 2 := by rw [List.length_take]; omega
  have hl1 : C1.length = C.length := by
    rw [h1]
    simp only [List.length_append, List.length_take, List.length_drop]
    omega
  have e1 : C1.take (i * 2) = L.take (i * 2) := by
    rw [h1, List.append_assoc, List.take_append_of_le_length (by omega), List.take_take, Nat.min_eq_left (by omega), ← hL, List.take_take, Nat.min_eq_left (by omega)]
  have e2 : C1.drop (i * 2 + 2) = L.drop (i * 2) ++ C.drop ((i + 1) * 2 + (L.drop (i * 2)).length) := by
    rw [h1, List.append_assoc]
    exact List.drop_left' (by omega)
  have e3 : C2 = (L.take (i * 2) ++ [a, b] ++ L.drop (i * 2)) ++ C.drop ((i + 1) * 2 + (L.drop (i * 2)).length) := by
    rw [h2, e1, e2, ← List.append_assoc]
  have hl3 : (L.take (i * 2) ++ [a, b] ++ L.drop (i * 2)).length = (n + 1) * 2 := by
    rw [List.length_append, List.length_append, hdl, List.length_take]
    simp
    omega
  refine ⟨hl1, ?_, ?_⟩
  · rw [e3, List.length_append, hl3, List.length_drop, hdl]
    omega
  · rw [e3, List.take_left' hl3]

theorem Turn.rows {l : List Nat} {w w1 w2 : World} {g : Nat} (hg : g ∈ l) (t : Turn l w w1) (e : ∃ cs, w2 = w1.setRow g cs) : Turn l w w2 := by
  obtain ⟨cs, rfl⟩ := e
  exact t.trans (Turn.setRow w1 hg cs) (fun i hi => .inl hi)

set_option maxHeartbeats 2000000 in
set_option maxRecDepth 100000 in
/-- slices.Insert in the middle, where there is room. -/
theorem insert_shift {w : World} {g cap : Nat} {cur : Array Value} {K : List (ByteArray × Int)} (hg : w.heap[g]? = some (.cells cur 127 (0, 0))) (hsz : cur.size = cap * 2) (htk : cur.toList.take (K.length * 2) = kcells K) (hfew : K.length ≤ 1000) (hmx : cap ≤ maxLen) {i : Nat} (hi : i < K.length) (hroom : K.length + 1 ≤ cap) (p : ByteArray × Int) {tb : Nat}
    (ht : w.heap[tb]? = some (.cells #[.string p.1, .int .i64 p.2] 127)) (hne : tb ≠ g) :
    Calls Tryz.prog 85 #[.slice (some ⟨g, 0, none⟩) K.length cap, .int .i64 (i : Int), .slice (some ⟨tb, 0, none⟩) 1 1] w fun e w' =>
      e = .returned (.slice (some ⟨g, 0, none⟩) (K.length + 1) cap) ∧ w'.ownsRow 0 127 2 (.slice (some ⟨g, 0, none⟩) (K.length + 1) cap) (K.length + 1) (kcells (insK K i p)) ∧ Turn [g] w w' := by
  obtain ⟨n, hn⟩ : ∃ n, n = K.length := ⟨_, rfl⟩
  have hkl := kcells_length K
  unfold maxLen at hmx
  have hov : ∀ lb cb, (callFunc 109 #[.slice (some ⟨tb, 0, none⟩) 1 1, .slice (some ⟨g, (i + 1) * 2, none⟩) lb cb]).run Tryz.prog w = .ok (.value (.bool false)) w := fun lb cb => by
    have hsa : w.shape? tb = some (127, 2) := by simp [World.shape?, ht]
    have hsb : w.shape? g = some (127, cap * 2) := by simp [World.shape?, hg, hsz]
    rw [run_callFunc_extern Tryz.func109 (by kernel_rfl) (by kernel_rfl) (by kernel_rfl) (e := Extern.SlicesOverlaps.overlaps #[116, 116] #[4]) (by kernel_rfl),
      Lib.run_overlaps_apart w 116 4 127 Tryz.underlying116 2 (fun _ => by kernel_rfl) ⟨tb, 0, none⟩ ⟨g, (i + 1) * 2, none⟩ 1 1 lb cb hne _ _ 2 (cap * 2) hsa hsb (by omega) (by simp [World.frozen?, ht]) (by simp [World.frozen?, ht])]
    rfl
  have HN := Lib.hid hn
  rw [← hn] at hi hroom hfew htk hkl ⊢
  clear hn
  go_enter Tryz.func85, Tryz.ntmps85
  have hb3 : (i : Int) ≤ (n : Int) := by omega
  have hz2 : ((i : Int) == (n : Int)) = false := by simp; omega
  have hz3 : ¬ (cap : Int) < (n : Int) + 1 := by omega
  have hw1 : IntKind.i64.wrap ((i : Int) + 1) = (i : Int) + 1 := by rw [IntKind.wrap_i64]; omega
  have htn : ((i : Int) + 1).toNat = i + 1 := by omega
  have hb1 : (0 : Int) ≤ (i : Int) + 1 := by omega
  have hin : i ≤ n := by omega
  have hb5 : (i : Int) ≤ (n : Int) + 1 := by omega
  have hb2 : ¬ cap = i + 1 := by omega
  have hb4 : ¬ cap = i := by omega
  go_wp2_with fail
  refine wp_region_any (by kernel_rfl) ?_
  refine any_take (i := 0) (d := some 69) (v := ?_) rfl (by rfl) (by kernel_rfl) (by kernel_rfl) (by kernel_rfl) (fun _ _ _ h => h) (by rfl) ?_ ?_
  rotate_left
  · intro wz
    go_simp
    try with_reducible rfl
  simp only [Act.put, List.setIfInBounds_toArray, List.set_cons_zero, List.set_cons_succ]
  refine any_take (i := 1) (d := some 70) (v := ?_) rfl (by rfl) (by kernel_rfl) (by kernel_rfl) (by kernel_rfl) (fun _ _ _ h => h) (by rfl) ?_ ?_
  rotate_left
  · intro wz
    go_simp
    try with_reducible rfl
  simp only [Act.put, List.setIfInBounds_toArray, List.set_cons_zero, List.set_cons_succ]
  refine any_take (i := 2) (d := some 71) (v := ?_) rfl (by rfl) (by kernel_rfl) (by kernel_rfl) (by kernel_rfl) (fun _ _ _ h => h) (by rfl) ?_ ?_
  rotate_left
  · intro wz
    go_simp
    try with_reducible rfl
  simp only [Act.put, List.setIfInBounds_toArray, List.set_cons_zero, List.set_cons_succ]
  refine any_take (i := 3) (d := some 72) (v := ?_) rfl (by rfl) (by kernel_rfl) (by kernel_rfl) (by kernel_rfl) (fun _ _ _ h => h) (by rfl) ?_ ?_
  rotate_left
  · intro wz
    go_simp
    try with_reducible rfl
  simp only [Act.put, List.setIfInBounds_toArray, List.set_cons_zero, List.set_cons_succ]
  refine any_take (i := 4) (d := some 73) (v := .slice (some ⟨g, (i + 1) * 2, none⟩) (n - i) (cap - (i + 1))) rfl (by rfl) (by kernel_rfl) (by kernel_rfl) (by kernel_rfl) (fun _ _ _ h => h) (by rfl) ?_ ?_
  · intro wz
    go_simp
  simp only [Act.put, List.setIfInBounds_toArray, List.set_cons_zero, List.set_cons_succ]
  refine any_take (i := 5) (d := some 74) (v := ?_) rfl (by rfl) (by kernel_rfl) (by kernel_rfl) (by kernel_rfl) (fun _ _ _ h => h) (by rfl) ?_ ?_
  rotate_left
  · intro wz
    go_simp
    try with_reducible rfl
  simp only [Act.put, List.setIfInBounds_toArray, List.set_cons_zero, List.set_cons_succ]
  refine any_take (i := 6) (d := some 75) (v := ?_) rfl (by rfl) (by kernel_rfl) (by kernel_rfl) (by kernel_rfl) (fun _ _ _ h => h) (by rfl) ?_ ?_
  rotate_left
  · intro wz
    go_simp
    try with_reducible rfl
  simp only [Act.put, List.setIfInBounds_toArray, List.set_cons_zero, List.set_cons_succ]
  refine any_take (i := 7) (d := some 76) (v := .slice (some ⟨g, i * 2, none⟩) (n + 1 - i) (cap - i)) rfl (by rfl) (by kernel_rfl) (by kernel_rfl) (by kernel_rfl) (fun _ _ _ h => h) (by rfl) ?_ ?_
  · intro wz
    go_simp
  simp only [Act.put, List.setIfInBounds_toArray, List.set_cons_zero, List.set_cons_succ]
  obtain ⟨L, hL⟩ : ∃ L, L = kcells K := ⟨_, rfl⟩
  rw [← hL] at htk hkl
  obtain ⟨C1, hC1⟩ : ∃ C1, C1 = cur.toList.take ((i + 1) * 2) ++ L.drop (i * 2) ++ cur.toList.drop ((i + 1) * 2 + (L.drop (i * 2)).length) := ⟨_, rfl⟩
  obtain ⟨C2, hC2⟩ : ∃ C2, C2 = C1.take (i * 2) ++ [.string p.1, .int .i64 p.2] ++ C1.drop (i * 2 + 2) := ⟨_, rfl⟩
  obtain ⟨hl1, hl2, htk2⟩ := shift_row htk hkl hi (by rw [Array.length_toList]; omega) hC1 hC2
  have hg0 : w.drew.heap[g]? = some (.cells cur 127 (0, 0)) := hg
  have hdl : (L.drop (i * 2)).length = (n - i) * 2 := by rw [List.length_drop, hkl]; omega
  have hcp1 := run_copy_rowN (P := Tryz.prog) w.drew 116 116 3 127 g ((i + 1) * 2) (n - i) (cap - (i + 1)) ⟨g, i * 2, none⟩ (n + 1 - i) (cap - i) 2 (n - i) cur _ (L.drop (i * 2)) Tryz.underlying116 Tryz.ksize hg0
    (by simp only [Nat.min_def]; split <;> omega) hdl
    (fun j v hj => by
      rw [Addr.add_lit, cell_of_row _ _ _ _ _ _ hg0]
      rw [List.getElem?_drop, ← htk] at hj
      have h9 : i * 2 + j < n * 2 := by
        rcases Nat.lt_or_ge (i * 2 + j) (n * 2) with h | h
        · exact h
        · rw [List.getElem?_eq_none (by rw [List.length_take]; omega)] at hj; cases hj
      rw [List.getElem?_take_of_lt h9] at hj
      simpa using hj)
    (by rw [hdl, hsz]; omega) (fun v hv => kcells_one K v (by rw [← hL]; exact List.mem_of_mem_drop hv))
  rw [← hC1] at hcp1
  obtain ⟨W1, hW1⟩ : ∃ W1, W1 = w.drew.setRow g C1.toArray := ⟨_, rfl⟩
  rw [← hW1] at hcp1
  have hg1 : W1.heap[g]? = some (.cells C1.toArray 127 (0, 0)) := by rw [hW1]; exact setRow_heap _ _ _ _ _ _ hg0
  have t1 : Turn [g] w W1 := Turn.rows (by simp) (Turn.drew _ w) ⟨_, hW1⟩
  have ht1 := t1.heap ht (by simpa using hne)
  have hcp2 := run_copy_rowN (P := Tryz.prog) W1 116 116 3 127 g (i * 2) (n + 1 - i) (cap - i) ⟨tb, 0, none⟩ 1 1 2 1 C1.toArray _ [.string p.1, .int .i64 p.2] Tryz.underlying116 Tryz.ksize hg1
    (by simp only [Nat.min_def]; split <;> omega) rfl
    (fun j v hj => by
      rw [Addr.add_lit, cell_of_row _ _ _ _ _ _ ht1]
      match j, hj with
      | 0, hj => simpa using hj
      | 1, hj => simpa using hj
      | j + 2, hj => simp at hj)
    (by simp [hl1, hsz]; omega) (by intro u hu; simp at hu; rcases hu with rfl | rfl <;> rfl)
  have e2 : (C1.toArray.toList.take (i * 2) ++ [.string p.1, .int .i64 p.2] ++ C1.toArray.toList.drop (i * 2 + [Value.string p.1, .int .i64 p.2].length)) = C2 := by rw [hC2]; rfl
  rw [e2] at hcp2
  obtain ⟨W2, hW2⟩ : ∃ W2, W2 = W1.setRow g C2.toArray := ⟨_, rfl⟩
  rw [← hW2] at hcp2
  have HCP2 := Lib.hid hcp2
  have T2 := Lib.hid (Turn.rows (g := g) (by simp) t1 ⟨_, hW2⟩)
  have R2 : Hid (W2.ownsRow 0 127 2 (.slice (some ⟨g, 0, none⟩) (n + 1) cap) (n + 1) (kcells (insK K i p))) := Lib.hid (by
    refine ⟨by rw [kcells_length, insK_length (by rw [← HN.out]; omega), HN.out], .inr ⟨g, cap, C2.toArray, rfl, Nat.zero_le _, by rw [hW2]; exact setRow_heap _ _ _ _ _ _ hg1, hroom, by unfold maxLen; omega, by simp [hl2, hsz], ?_⟩⟩
    rw [kcells_ins, ← hL]
    exact htk2)
  refine any_one (i := 8) (by kernel_rfl) (by rfl) (fun KK hKK => ?_)
  refine step_copy (by rfl) (.tmp 73) (.tmp 76) 116 116 rfl _ _ rfl rfl hcp1 ?_
  refine hKK _ _ ?_
  show wpAny _ _ _ _ _ _ (Act.put _ (some 77) _) _
  simp only [Act.put, List.setIfInBounds_toArray, List.set_cons_zero, List.set_cons_succ]
  refine any_done (by kernel_rfl) ?_ _
  clear hcp1 hcp2 hg0 hg1 hC1 hC2 hl1 hl2 htk2 t1 ht1 hW1 hW2 hdl e2 hg ht hsz htk hkl hL
  go_wp2_with fail
  rw [HCP2.out]
  go_wp2
  go_ret
  exact ⟨rfl, R2.out, T2.out⟩

/-- Two cells, and a tail behind them, are laid into a new row. -/
theorem grown_row {C L : List Value} {i n : Nat} {a b : Value} (hl : L.length = n * 2) (hi : i < n) (hC : (n + 1) * 2 ≤ C.length) (hL : C.take (i * 2) = L.take (i * 2)) {C1 C2 : List Value}
    (h1 : C1 = C.take (i * 2) ++ [a, b] ++ C.drop (i * 2 + 2)) (h2 : C2 = C1.take ((i + 1) * 2) ++ L.drop (i * 2) ++ C1.drop ((i + 1) * 2 + (L.drop (i * 2)).length)) :
    C1.length = C.length ∧ C2.length = C.length ∧ C2.take ((n + 1) * 2) = L.take (i * 2) ++ [a, b] ++ L.drop (i * 2) := by
  have hdl : (L.drop (i * 2)).length = n * 2 - i * 2 := by rw [List.length_drop, hl]
  have htl : (C.take (i * 2) ++ [a, b]).length = (i + 1) * 2 := by
    rw [List.length_append, List.length_take]
    simp
    omega
  have hl1 : C1.length = C.length := by
    rw [h1]
    simp only [List.length_append, List.length_take, List.length_drop, List.length_cons, List.length_nil]
    omega
  have e1 : C1.take ((i + 1) * 2) = L.take (i * 2) ++ [a, b] := by
    rw [h1, List.take_left' htl, hL]
  have hl3 : (L.take (i * 2) ++ [a, b] ++ L.drop (i * 2)).length = (n + 1) * 2 := by
    rw [List.length_append, List.length_append, hdl, List.length_take]
    simp
    omega
  rw [e1] at h2
  refine ⟨hl1, ?_, ?_⟩
  · rw [h2, List.length_append, hl3, List.length_drop, hdl]
    omega
  · rw [h2, List.take_left' hl3]

set_option maxHeartbeats 2000000 in
set_option maxRecDepth 100000 in
/-- slices.Insert in the middle, where there is no room. -/
theorem insert_grow {w : World} {g cap : Nat} {cur : Array Value} {K : List (ByteArray × Int)} (hg : w.heap[g]? = some (.cells cur 127 (0, 0))) (htk : cur.toList.take (K.length * 2) = kcells K) (hfew : K.length ≤ 1000) {i : Nat} (hi : i < K.length) (hle : K.length ≤ cap) (hroom : cap < K.length + 1) (p : ByteArray × Int) {tb : Nat}
    (ht : w.heap[tb]? = some (.cells #[.string p.1, .int .i64 p.2] 127)) :
    Calls Tryz.prog 85 #[.slice (some ⟨g, 0, none⟩) K.length cap, .int .i64 (i : Int), .slice (some ⟨tb, 0, none⟩) 1 1] w fun e w' =>
      ∃ G, e = .returned (.slice (some ⟨w.heap.size, 0, none⟩) (K.length + 1) G) ∧ w'.ownsRow 0 127 2 (.slice (some ⟨w.heap.size, 0, none⟩) (K.length + 1) G) (K.length + 1) (kcells (insK K i p)) ∧ Turn [] w w' := by
  obtain ⟨n, hn⟩ : ∃ n, n = K.length := ⟨_, rfl⟩
  have hkl := kcells_length K
  have HN := Lib.hid hn
  obtain ⟨L, hL⟩ : ∃ L, L = kcells K := ⟨_, rfl⟩
  rw [← hL] at htk hkl
  rw [← hn] at hi hroom hle hfew htk hkl ⊢
  clear hn
  obtain ⟨i0, hi0, hz0, hz1, hz2⟩ := info_parts Tryz.krow
  have hgw : g < w.heap.size := lt_of_heap hg
  have htw : tb < w.heap.size := lt_of_heap ht
  have hold : (Builtin.firstCells i0.size i (.slice (some ⟨g, 0, none⟩) i cap)).run Tryz.prog w.drew = .ok (L.take (i * 2)).toArray w.drew := by
    rw [hz1]
    exact run_firstCells_some w.drew 2 i ⟨g, 0, none⟩ i cap (L.take (i * 2)) (by rw [List.length_take]; omega) (fun j v hj => by
      have hg0 : w.drew.heap[g]? = some (.cells cur 127 (0, 0)) := hg
      rw [Addr.add_lit, Nat.zero_add, cell_of_row _ _ _ _ _ _ hg0]
      rw [← htk, List.take_take, Nat.min_eq_left (by omega)] at hj
      have h9 : j < i * 2 := by
        rcases Nat.lt_or_ge j (i * 2) with h | h
        · exact h
        · rw [List.getElem?_eq_none (by rw [List.length_take]; omega)] at hj; cases hj
      rw [List.getElem?_take_of_lt h9] at hj
      simpa using hj)
  obtain ⟨q, hq⟩ : ∃ q, q = w.heap.size := ⟨_, rfl⟩
  have hrz := Lib.run_append_grow_zeros w 116 3 116 127 i0 _ .i64 .i64 Tryz.underlying116 Tryz.underlying3 hi0 hz0 (some ⟨g, 0, none⟩) i cap (L.take (i * 2)) hold (n + 1 - i) (by omega) (by omega) (by omega) (by omega) (by rw [hz2]; omega) (by rw [hz2]; exact growslice_fits (by omega) (by omega))
  rw [show i + (n + 1 - i) = n + 1 by omega, ← hq] at hrz
  obtain ⟨G, hG⟩ : ∃ G, G = grownCap w (n + 1) cap 127 := ⟨_, rfl⟩
  have hGn : n + 1 ≤ G := by rw [hG]; exact grownCap_ge w _ _ _
  have hG63 : G ≤ maxLen := by rw [hG]; exact grownCap_le_maxLen w (n + 1) cap 127 (by unfold maxLen; omega)
  rw [← hG] at hrz
  obtain ⟨ROW, hROW⟩ : ∃ ROW : Array Value, ROW = (L.take (i * 2)).toArray ++ Builtin.zeroCells (Value.agg #[.string ⟨#[]⟩, .int .i64 0]).cells (n + 1 - i) ++ Builtin.zeroCells (Value.agg #[.string ⟨#[]⟩, .int .i64 0]).cells (G - (n + 1)) := ⟨_, rfl⟩
  rw [← hROW] at hrz
  have hRs : ROW.size = G * 2 := by
    rw [hROW]
    simp [Builtin.zeroCells, Value.cells]
    omega
  have hRt : ROW.toList.take (i * 2) = L.take (i * 2) := by
    rw [hROW]
    simp only [Array.toList_append, List.append_assoc]
    exact List.take_left' (by rw [List.length_take]; omega)
  obtain ⟨C1, hC1⟩ : ∃ C1, C1 = ROW.toList.take (i * 2) ++ [.string p.1, .int .i64 p.2] ++ ROW.toList.drop (i * 2 + 2) := ⟨_, rfl⟩
  obtain ⟨C2, hC2⟩ : ∃ C2, C2 = C1.take ((i + 1) * 2) ++ L.drop (i * 2) ++ C1.drop ((i + 1) * 2 + (L.drop (i * 2)).length) := ⟨_, rfl⟩
  obtain ⟨hl1, hl2, htk2⟩ := grown_row hkl hi (by rw [Array.length_toList, hRs]; omega) hRt hC1 hC2
  have hRl : ROW.toList.length = G * 2 := by rw [Array.length_toList]; exact hRs
  rw [hRl] at hl1 hl2
  clear hRl
  obtain ⟨W1, hW1⟩ : ∃ W1, W1 = w.drew.alloc (.cells ROW 127) := ⟨_, rfl⟩
  rw [← hW1] at hrz
  have t1 : Turn [] w W1 := by rw [hW1]; exact (Turn.drew [] w).trans (Turn.alloc [] _ _) (by simp)
  have hg1 : W1.heap[q]? = some (.cells ROW 127 (0, 0)) := by rw [hW1, hq]; exact heap_alloc_new w.drew _
  have hcp1 := run_copy_rowN (P := Tryz.prog) W1 116 116 3 127 q (i * 2) (n + 1 - i) (G - i) ⟨tb, 0, none⟩ 1 1 2 1 ROW _ [.string p.1, .int .i64 p.2] Tryz.underlying116 Tryz.ksize hg1
    (by simp only [Nat.min_def]; split <;> omega) rfl
    (fun j v hj => by
      rw [Addr.add_lit, cell_of_row _ _ _ _ _ _ (t1.heap ht (by simp))]
      match j, hj with
      | 0, hj => simpa using hj
      | 1, hj => simpa using hj
      | j + 2, hj => simp at hj)
    (by simp [hRs]; omega) (by intro u hu; simp at hu; rcases hu with rfl | rfl <;> rfl)
  have e1 : (ROW.toList.take (i * 2) ++ [.string p.1, .int .i64 p.2] ++ ROW.toList.drop (i * 2 + [Value.string p.1, .int .i64 p.2].length)) = C1 := by rw [hC1]; rfl
  rw [e1] at hcp1
  obtain ⟨W2, hW2⟩ : ∃ W2, W2 = W1.setRow q C1.toArray := ⟨_, rfl⟩
  rw [← hW2] at hcp1
  have hg2 : W2.heap[q]? = some (.cells C1.toArray 127 (0, 0)) := by rw [hW2]; exact setRow_heap _ _ _ _ _ _ hg1
  have t2 : Turn [q] w W2 := Turn.rows (by simp) (t1.mono (by simp)) ⟨_, hW2⟩
  have hdl : (L.drop (i * 2)).length = (n - i) * 2 := by rw [List.length_drop, hkl]; omega
  have hgo := t2.heap hg (by simp; omega)
  have hcp2 := run_copy_rowN (P := Tryz.prog) W2.drew 116 116 3 127 q ((i + 1) * 2) (n - i) (G - (i + 1)) ⟨g, i * 2, none⟩ (n - i) (cap - i) 2 (n - i) C1.toArray _ (L.drop (i * 2)) Tryz.underlying116 Tryz.ksize hg2
    (by simp) hdl
    (fun j v hj => by
      have hgo' : W2.drew.heap[g]? = some (.cells cur 127 (0, 0)) := hgo
      rw [Addr.add_lit, cell_of_row _ _ _ _ _ _ hgo']
      rw [List.getElem?_drop, ← htk] at hj
      have h9 : i * 2 + j < n * 2 := by
        rcases Nat.lt_or_ge (i * 2 + j) (n * 2) with h | h
        · exact h
        · rw [List.getElem?_eq_none (by rw [List.length_take]; omega)] at hj; cases hj
      rw [List.getElem?_take_of_lt h9] at hj
      simpa using hj)
    (by rw [hdl]; simp [hl1]; omega) (fun v hv => kcells_one K v (by rw [← hL]; exact List.mem_of_mem_drop hv))
  rw [show C1.toArray.toList = C1 from rfl, ← hC2] at hcp2
  obtain ⟨W3, hW3⟩ : ∃ W3, W3 = W2.drew.setRow q C2.toArray := ⟨_, rfl⟩
  rw [← hW3] at hcp2
  have HRZ := Lib.hid hrz
  have HCP1 := Lib.hid hcp1
  have HCP2 := Lib.hid hcp2
  have T3 : Hid (Turn [] w W3) := Lib.hid ((Turn.rows (g := q) (by simp) (t2.trans (Turn.drew [q] W2) (fun i hi => .inl hi)) ⟨_, hW3⟩).mono (fun k hk => .inr (by rw [List.mem_singleton.1 hk, hq]; exact Nat.le_refl _)))
  have R3 : Hid (W3.ownsRow 0 127 2 (.slice (some ⟨q, 0, none⟩) (n + 1) G) (n + 1) (kcells (insK K i p))) := Lib.hid (by
    refine ⟨by rw [kcells_length, insK_length (by rw [← HN.out]; omega), HN.out], .inr ⟨q, G, C2.toArray, rfl, Nat.zero_le _, by rw [hW3]; exact setRow_heap W2.drew _ _ _ _ _ hg2, hGn, hG63, by simp [hl2], ?_⟩⟩
    rw [kcells_ins, ← hL]
    exact htk2)
  rw [← hq]
  unfold maxLen at hG63
  clear hrz hcp1 hcp2 hg1 hg2 hC1 hC2 hl1 hl2 htk2 t1 t2 hW1 hW2 hW3 hdl e1 hg ht htk hkl hL hold hROW hRs hRt hgo hG hq hi0 hz0 hz1 hz2
  go_enter Tryz.func85, Tryz.ntmps85
  have hb3 : (i : Int) ≤ (n : Int) := by omega
  have hz2 : ((i : Int) == (n : Int)) = false := by simp; omega
  have hz3 : (cap : Int) < (n : Int) + 1 := by omega
  have hw1 : IntKind.i64.wrap ((i : Int) + 1) = (i : Int) + 1 := by rw [IntKind.wrap_i64]; omega
  have htn : ((i : Int) + 1).toNat = i + 1 := by omega
  have hb1 : (0 : Int) ≤ (i : Int) + 1 := by omega
  have hin : i ≤ n := by omega
  have hb5 : (i : Int) ≤ (n : Int) + 1 := by omega
  have hb4 : ¬ cap = i := by omega
  have hb6 : ¬ G = i := by omega
  have hb7 : ¬ G = i + 1 := by omega
  have hkk : (n : Int) + 1 - (i : Int) = ((n + 1 - i : Nat) : Int) := by omega
  go_wp2_with (at_builtin; refine Lib.wpList_append_run w rfl (.tmp 34) (.tmp 39) 116 3 rfl _ _ rfl rfl _ _ HRZ.out ?_)
  rw [HCP1.out]
  go_wp2_with fail
  refine wp_region_any (by kernel_rfl) ?_
  refine any_take (i := 0) (d := some 46) (v := ?_) rfl (by rfl) (by kernel_rfl) (by kernel_rfl) (by kernel_rfl) (fun _ _ _ h => h) (by rfl) ?_ ?_
  rotate_left
  · intro wz
    go_simp
    try with_reducible rfl
  simp only [Act.put, List.setIfInBounds_toArray, List.set_cons_zero, List.set_cons_succ]
  refine any_take (i := 1) (d := some 47) (v := ?_) rfl (by rfl) (by kernel_rfl) (by kernel_rfl) (by kernel_rfl) (fun _ _ _ h => h) (by rfl) ?_ ?_
  rotate_left
  · intro wz
    go_simp
    try with_reducible rfl
  simp only [Act.put, List.setIfInBounds_toArray, List.set_cons_zero, List.set_cons_succ]
  refine any_take (i := 2) (d := some 48) (v := ?_) rfl (by rfl) (by kernel_rfl) (by kernel_rfl) (by kernel_rfl) (fun _ _ _ h => h) (by rfl) ?_ ?_
  rotate_left
  · intro wz
    go_simp
    try with_reducible rfl
  simp only [Act.put, List.setIfInBounds_toArray, List.set_cons_zero, List.set_cons_succ]
  refine any_take (i := 3) (d := some 49) (v := ?_) rfl (by rfl) (by kernel_rfl) (by kernel_rfl) (by kernel_rfl) (fun _ _ _ h => h) (by rfl) ?_ ?_
  rotate_left
  · intro wz
    go_simp
    try with_reducible rfl
  simp only [Act.put, List.setIfInBounds_toArray, List.set_cons_zero, List.set_cons_succ]
  refine any_take (i := 4) (d := some 50) (v := .slice (some ⟨q, (i + 1) * 2, none⟩) (n - i) (G - (i + 1))) rfl (by rfl) (by kernel_rfl) (by kernel_rfl) (by kernel_rfl) (fun _ _ _ h => h) (by rfl) ?_ ?_
  · intro wz
    go_simp
  simp only [Act.put, List.setIfInBounds_toArray, List.set_cons_zero, List.set_cons_succ]
  refine any_take (i := 5) (d := some 51) (v := ?_) rfl (by rfl) (by kernel_rfl) (by kernel_rfl) (by kernel_rfl) (fun _ _ _ h => h) (by rfl) ?_ ?_
  rotate_left
  · intro wz
    go_simp
    try with_reducible rfl
  simp only [Act.put, List.setIfInBounds_toArray, List.set_cons_zero, List.set_cons_succ]
  refine any_take (i := 6) (d := some 52) (v := ?_) rfl (by rfl) (by kernel_rfl) (by kernel_rfl) (by kernel_rfl) (fun _ _ _ h => h) (by rfl) ?_ ?_
  rotate_left
  · intro wz
    go_simp
    try with_reducible rfl
  simp only [Act.put, List.setIfInBounds_toArray, List.set_cons_zero, List.set_cons_succ]
  refine any_take (i := 7) (d := some 53) (v := .slice (some ⟨g, i * 2, none⟩) (n - i) (cap - i)) rfl (by rfl) (by kernel_rfl) (by kernel_rfl) (by kernel_rfl) (fun _ _ _ h => h) (by rfl) ?_ ?_
  · intro wz
    go_simp
  simp only [Act.put, List.setIfInBounds_toArray, List.set_cons_zero, List.set_cons_succ]
  refine any_one (i := 8) (by kernel_rfl) (by rfl) (fun KK hKK => ?_)
  refine step_copy (by rfl) (.tmp 50) (.tmp 53) 116 116 rfl _ _ rfl rfl HCP2.out ?_
  refine hKK _ _ ?_
  show wpAny _ _ _ _ _ _ (Act.put _ (some 54) _) _
  simp only [Act.put, List.setIfInBounds_toArray, List.set_cons_zero, List.set_cons_succ]
  refine any_done (by kernel_rfl) ?_ _
  go_wp2
  go_ret
  exact ⟨G, rfl, R3.out, T3.out⟩

/-- A kind of its own put into a row: wherever, whether there is room or not. -/
theorem insert_calls {w : World} {v : Value} {K : List (ByteArray × Int)} (h : w.ownsRow 0 127 2 v K.length (kcells K)) (hfew : K.length ≤ 1000) {i : Nat} (hi : i ≤ K.length) (p : ByteArray × Int) {tb : Nat}
    (ht : w.heap[tb]? = some (.cells #[.string p.1, .int .i64 p.2] 127)) (hne : v.ownBlock ≠ some tb) :
    Calls Tryz.prog 85 #[v, .int .i64 (i : Int), .slice (some ⟨tb, 0, none⟩) 1 1] w fun e w' =>
      ∃ v', e = .returned v' ∧ w'.ownsRow 0 127 2 v' (K.length + 1) (kcells (insK K i p)) ∧ (v'.ownBlock = v.ownBlock ∨ v'.ownBlock = some w.heap.size) ∧ Turn v.ownBlock.toList w w' := by
  by_cases hin : i = K.length
  · subst hin
    exact insert_end h hfew p (by rw [cell_of_row _ _ _ _ _ _ ht]; rfl) (by rw [cell_of_row _ _ _ _ _ _ ht]; rfl)
  · rcases h.2 with ⟨rfl, h0⟩ | ⟨g, cap, cur, rfl, _, hg, hle, hmx, hsz, htk⟩
    · omega
    · by_cases hroom : K.length + 1 ≤ cap
      · refine (insert_shift hg hsz htk hfew hmx (by omega) hroom p ht (fun e => hne (by rw [e]; rfl))).mono ?_
        rintro e w' ⟨rfl, hr, t⟩
        exact ⟨_, rfl, hr, .inl rfl, t⟩
      · refine (insert_grow hg htk hfew (by omega) hle (by omega) p ht).mono ?_
        rintro e w' ⟨G, rfl, hr, t⟩
        exact ⟨_, rfl, hr, .inr rfl, t.mono (by simp)⟩

end Go.Proofs.YtjmainefmiefcaaGreat.S
