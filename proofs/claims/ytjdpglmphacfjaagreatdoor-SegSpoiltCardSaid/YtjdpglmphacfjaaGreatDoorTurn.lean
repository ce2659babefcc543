/-
  What turns and what stays: a world in which only the blocks of a list may have turned; a map from names to blocks; rows of bytes of the call's own.
-/
import Derived.Test.YtjdpglmphacfjaaGreatDoorShort
import Derived.Maps.OwnSet
import Derived.Maps.AppendAt
import Derived.Sort.KeysCollected
namespace Go.Proofs.YtjdpglmphacfjaaGreatDoor
open Go.RowKit

/-- w' is w but for the blocks of l and new ones. -/
structure Turn (l : List Nat) (w w' : World) : Prop where
  os : w'.os = w.os
  tape : w'.tape = w.tape
  output : w'.output = w.output
  size : w.heap.size ≤ w'.heap.size
  block : ∀ k, k < w.heap.size → k ∉ l → w'.heap[k]? = w.heap[k]?

theorem Turn.refl (l : List Nat) (w : World) : Turn l w w := ⟨rfl, rfl, rfl, Nat.le_refl _, fun _ _ _ => rfl⟩

/-- One behind the other: what the second may turn is the first's or new. -/
theorem Turn.trans {l l' : List Nat} {a b c : World} (h : Turn l a b) (k : Turn l' b c) (hl : ∀ i ∈ l', i ∈ l ∨ a.heap.size ≤ i) : Turn l a c :=
  ⟨k.os.trans h.os, k.tape.trans h.tape, k.output.trans h.output, Nat.le_trans h.size k.size, fun i hi hn =>
    (k.block i (Nat.lt_of_lt_of_le hi h.size) (fun hm => by rcases hl i hm with h1 | h1 <;> first | exact hn h1 | omega)).trans (h.block i hi hn)⟩

theorem Turn.mono {l l' : List Nat} {a b : World} (h : Turn l a b) (hl : ∀ i ∈ l, i ∈ l' ∨ a.heap.size ≤ i) : Turn l' a b := (Turn.refl l' a).trans h hl

theorem Turn.alloc (l : List Nat) (w : World) (o : Obj) : Turn l w (w.alloc o) := ⟨rfl, rfl, rfl, by simp, fun k hk _ => Below.heap_alloc w o k hk⟩

theorem Turn.drew (l : List Nat) (w : World) : Turn l w w.drew := ⟨rfl, rfl, rfl, Nat.le_refl _, fun _ _ _ => rfl⟩

theorem Turn.drewN (l : List Nat) (w : World) (n : Nat) : Turn l w (w.drewN n) := ⟨rfl, rfl, rfl, Nat.le_refl _, fun _ _ _ => rfl⟩

theorem Turn.setCell {l : List Nat} (w : World) {b i : Nat} (hb : b ∈ l) (u : Value) : Turn l w (w.setCell ⟨b, i, none⟩ u) :=
  ⟨rfl, rfl, rfl, by simp [World.setCell], fun k _ hn => Below.heap_setCell _ _ _ _ (fun e => hn (by rw [e]; exact hb))⟩

theorem Turn.grown {l : List Nat} {w w' : World} {row : Option Nat} (h : w.grownBy w' row) (hr : ∀ k, row = some k → k ∈ l ∨ w.heap.size ≤ k) : Turn l w w' :=
  ⟨h.os, h.tape, h.output, h.size, fun k hk hn => h.block k hk (fun e => by rcases hr k e.symm with h1 | h1 <;> first | exact hn h1 | omega)⟩

theorem Turn.of_below {w w' : World} (h : Below w.heap.size w w') (l : List Nat) : Turn l w w' := ⟨h.os, h.tape, h.output, h.size, fun k hk _ => h.block k hk⟩

/-- Nothing below B has turned, where the list is above it. -/
theorem Turn.below {l : List Nat} {w w' : World} {B : Nat} (h : Turn l w w') (hl : ∀ k ∈ l, B ≤ k) (hB : B ≤ w.heap.size) : Below B w w' :=
  ⟨h.os, h.tape, h.output, h.size, fun k hk => h.block k (by omega) (fun hm => by have := hl k hm; omega)⟩

theorem Turn.belowAll {w w' : World} (h : Turn [] w w') : Below w.heap.size w w' := h.below (by simp) (Nat.le_refl _)

theorem lt_of_heap {w : World} {b : Nat} {o : Obj} (h : w.heap[b]? = some o) : b < w.heap.size := (Array.getElem?_eq_some_iff.1 h).1

theorem Turn.heap {l : List Nat} {w w' : World} {b : Nat} {o : Obj} (h : Turn l w w') (hb : w.heap[b]? = some o) (hn : b ∉ l) : w'.heap[b]? = some o := (h.block b (lt_of_heap hb) hn).trans hb

theorem Turn.cell {l : List Nat} {w w' : World} {a : Addr} {v : Value} (h : Turn l w w') (hb : w.cell? a = some v) (hn : a.block ∉ l) : w'.cell? a = some v :=
  (World.cell?_of_block (h.block _ (World.block_lt_of_cell? _ _ hb) hn)).trans hb

/-- A block of cells is written at one place. -/
theorem block_set {w : World} {g i : Nat} {cs : Array Value} {t : TypeId} {fr : Nat × Nat} (h : w.heap[g]? = some (.cells cs t fr)) (v : Value) : (w.setCell ⟨g, i, none⟩ v).heap[g]? = some (.cells (cs.setIfInBounds i v) t fr) := by
  simp [World.setCell, Array.getElem?_modify, h]

theorem block_other {w : World} {g b i : Nat} (hne : g ≠ b) (v : Value) : (w.setCell ⟨b, i, none⟩ v).heap[g]? = w.heap[g]? := Below.heap_setCell _ _ _ _ hne

theorem unfrozen_of {w : World} {g i : Nat} {cs : Array Value} {t : TypeId} (h : w.heap[g]? = some (.cells cs t (0, 0))) : w.frozen? ⟨g, i, none⟩ = false := by
  simp [World.frozen?, h]

/-- A row of the call's own stays while other blocks turn. -/
theorem ownsRow_turn {l : List Nat} {w w' : World} {base : Nat} {e : TypeId} {size : Nat} {v : Value} {n : Nat} {xs : List Value} (h : w.ownsRow base e size v n xs) (ht : Turn l w w') (hn : ∀ k, v.ownBlock = some k → k ∉ l) : w'.ownsRow base e size v n xs := by
  refine ⟨h.1, ?_⟩
  rcases h.2 with h0 | ⟨g, cap, cur, rfl, hB, hg, rest⟩
  · exact .inl h0
  · exact .inr ⟨g, cap, cur, rfl, hB, ht.heap hg (hn g rfl), rest⟩

theorem ownsRow_base {w : World} {base base' : Nat} {e : TypeId} {size : Nat} {v : Value} {n : Nat} {xs : List Value} (h : w.ownsRow base e size v n xs) (hb : ∀ k, v.ownBlock = some k → base' ≤ k) : w.ownsRow base' e size v n xs := by
  refine ⟨h.1, ?_⟩
  rcases h.2 with h0 | ⟨g, cap, cur, rfl, hB, rest⟩
  · exact .inl h0
  · exact .inr ⟨g, cap, cur, rfl, hb g rfl, rest⟩

/-! ### A map from names to blocks -/

/-- How a pointer to a block's head reads. -/
def ptrR : Value → Option (DataW Unit × List MemPlace)
  | .pointer (some ⟨c, 0, none⟩) => some (.lit (.int .i64 (c : Int)), [])
  | .pointer none => some (.nil, [])
  | _ => none

theorem ptrR_inv {v : Value} {c : Nat} {ps : List MemPlace} (h : ptrR v = some (.lit (.int .i64 (c : Int)), ps)) : v = .pointer (some ⟨c, 0, none⟩) := by
  unfold ptrR at h
  split at h
  · simp at h
    obtain ⟨h, _⟩ := h
    have : _ = c := Int.ofNat.inj h
    subst this
    rfl
  · simp at h
  · cases h

theorem ptrR_nil {v : Value} {ps : List MemPlace} (h : ptrR v = some (.nil, ps)) : v = .pointer none := by
  unfold ptrR at h
  split at h
  · simp at h
  · rfl
  · cases h

/-- Names and blocks as a map's entries. -/
def entOf (p : List UInt8 × Nat) : Lit × DataW Unit := (.string p.1, .lit (.int .i64 (p.2 : Int)))

/-- The map's block (none: nil) has just these names, each with its block. -/
def MapIs (w : World) (mb : Option Nat) (L : List (List UInt8 × Nat)) : Prop :=
  (L.map Prod.fst).Nodup ∧ (mb = none ∧ L = [] ∨ ∃ m es, mb = some m ∧ w.ownsMap Tryz.prog 9 ptrR m L.length (.map es) ∧ es.Perm (L.map entOf))

/-- Where a name's block is. -/
def locOf (L : List (List UInt8 × Nat)) (n : List UInt8) : Option Addr := (L.find? (fun p => p.1 == n)).map fun p => ⟨p.2, 0, none⟩

theorem ownsMap_tight {H : Type} {P : Program} {k : TypeId} {R : Value → Option (DataW H × List MemPlace)} {w : World} {b n : Nat} {es : List (Lit × DataW H)} (h : w.ownsMap P k R b n (.map es)) {n' : Nat} (hn : es.length = n') : w.ownsMap P k R b n' (.map es) := by
  obtain ⟨es0, clock, hb, F, hs, hD⟩ := h
  refine ⟨es0, clock, hb, F, ?_, hD⟩
  have : es = (es0.toList.map (Go.WideElems.rg P k R)).foldr DataW.insert [] := by injection hD
  rw [this, length_sorted] at hn
  simp at hn
  omega

theorem MapIs.turn {l : List Nat} {w w' : World} {mb : Option Nat} {L : List (List UInt8 × Nat)} (h : MapIs w mb L) (ht : Turn l w w') (hn : ∀ m, mb = some m → m ∉ l) : MapIs w' mb L := by
  refine ⟨h.1, ?_⟩
  rcases h.2 with h0 | ⟨m, es, rfl, ⟨es0, clock, hb, rest⟩, hp⟩
  · exact .inl h0
  · exact .inr ⟨m, es, rfl, ⟨es0, clock, ht.heap hb (hn m rfl), rest⟩, hp⟩

theorem MapIs.lt {w : World} {m : Nat} {L : List (List UInt8 × Nat)} (h : MapIs w (some m) L) : m < w.heap.size := by
  rcases h.2 with ⟨h0, _⟩ | ⟨m, es, e, ⟨es0, clock, hb, rest⟩, hp⟩
  · cases h0
  · cases e
    exact lt_of_heap hb

theorem MapIs.perm {w : World} {mb : Option Nat} {L L' : List (List UInt8 × Nat)} (h : MapIs w mb L) (hp : L'.Perm L) : MapIs w mb L' := by
  refine ⟨(hp.map _).nodup_iff.2 h.1, ?_⟩
  rcases h.2 with ⟨h0, rfl⟩ | ⟨m, es, e, ho, hq⟩
  · exact .inl ⟨h0, List.perm_nil.1 hp⟩
  · refine .inr ⟨m, es, e, ?_, hq.trans (hp.map entOf).symm⟩
    rw [hp.length_eq]
    exact ho

theorem key_string {n : List UInt8} (hn : n.length ≤ maxLen) : keyOf Tryz.prog 9 (.string ⟨n.toArray⟩) = some (.string n) := by
  rw [Go.WideMaps.keyOf_string_mk Tryz.underlying9 (s := ⟨n.toArray⟩) (by simpa [ByteArray.size] using hn)]

theorem string_law : Go.Maps.Keyed Tryz.prog 9 := Go.Maps.string_keyed Tryz.underlying9

theorem zero_ptr (w : World) : (zeroValue 68).run Tryz.prog w = .ok (.pointer none) w := by kernel_rfl

theorem mem_find {L : List (List UInt8 × Nat)} {p : List UInt8 × Nat} (hnd : (L.map Prod.fst).Nodup) (hp : p ∈ L) : L.find? (fun q => q.1 == p.1) = some p := by
  induction L with
  | nil => simp at hp
  | cons a L ih =>
    simp only [List.map_cons, List.nodup_cons] at hnd
    by_cases e : a.1 = p.1
    · rcases List.mem_cons.1 hp with rfl | h
      · simp
      · exact absurd (List.mem_map_of_mem (f := Prod.fst) h) (by rw [← e]; exact hnd.1)
    · rcases List.mem_cons.1 hp with rfl | h
      · exact absurd rfl e
      · rw [List.find?_cons, show (a.1 == p.1) = false by simp [e]]
        exact ih hnd.2 h

theorem sameKey_string (a b : List UInt8) : (Lit.string a).sameKey (.string b) = (a == b) := by
  cases h : (Lit.string a).sameKey (.string b)
  · cases hb : a == b
    · rfl
    · have : a = b := by simpa using hb
      subst this
      rw [Go.WideAt.sameKey_self (by trivial)] at h
      cases h
  · have := Go.WideAt.sameKey_eq h
    simp at this
    subst this
    simp

theorem sameKey_ent (p : List UInt8 × Nat) (n : List UInt8) : (entOf p).1.sameKey (.string n) = (p.1 == n) := sameKey_string _ _

/-- What 'm[k]' gives. -/
theorem MapIs.look {w : World} {mb : Option Nat} {L : List (List UInt8 × Nat)} (h : MapIs w mb L) {n : List UInt8} (hn : n.length ≤ maxLen) :
    (Instr.lookup 53 (.map mb) (.string ⟨n.toArray⟩) false).run Tryz.prog w = .ok (.pointer (locOf L n)) w := by
  obtain ⟨hnd, ⟨rfl, rfl⟩ | ⟨m, es, rfl, ho, hp⟩⟩ := h
  · rw [Go.Maps.look_nil false string_law Tryz.underlying53 (zero_ptr w) (key_string hn)]
    rfl
  · obtain ⟨v, ps, hrun, hv⟩ := ho.lookup string_law Tryz.underlying53 (zero_ptr w) (zd := .nil) (zp := []) rfl (key_string hn)
    rw [hrun]
    have hat : DataW.atKey (.map es) (.string n) .nil = match L.find? (fun p => p.1 == n) with | some p => .lit (.int .i64 (p.2 : Int)) | none => .nil := by
      rw [DataW.atKey]
      cases hf : es.find? (fun p => p.1.sameKey (.string n)) with
      | none =>
        have hnone : L.find? (fun p => p.1 == n) = none := by
          rw [List.find?_eq_none]
          intro q hq
          have := List.find?_eq_none.1 hf (entOf q) (hp.mem_iff.2 (List.mem_map_of_mem hq))
          rw [sameKey_ent] at this
          exact this
        rw [hnone]
      | some x =>
        have h1 := List.find?_some hf
        obtain ⟨q, hq, rfl⟩ := List.mem_map.1 (hp.mem_iff.1 (List.mem_of_find?_eq_some hf))
        rw [sameKey_ent] at h1
        obtain rfl : q.1 = n := by simpa using h1
        rw [mem_find hnd hq]
        rfl
    rw [hat] at hv
    unfold locOf
    cases hf : L.find? (fun p => p.1 == n) with
    | none => rw [hf] at hv; rw [ptrR_nil hv]; rfl
    | some p => rw [hf] at hv; rw [ptrR_inv hv]; rfl

/-- What is left behind 'delete(m, k)'. -/
theorem perm_del {L : List (List UInt8 × Nat)} {es : List (Lit × DataW Unit)} (hp : es.Perm (L.map entOf)) (n : List UInt8) : (es.filter fun p => !p.1.sameKey (.string n)).Perm ((L.filter (fun p => !(p.1 == n))).map entOf) := by
  refine (hp.filter _).trans ?_
  rw [List.filter_map]
  refine List.Perm.of_eq (congrArg _ (List.filter_congr fun q _ => ?_))
  show (!(entOf q).1.sameKey (.string n)) = _
  rw [sameKey_ent]

theorem MapIs.deleted {w' : World} {m k : Nat} {L : List (List UInt8 × Nat)} {es : List (Lit × DataW Unit)} (hnd : (L.map Prod.fst).Nodup) (hp : es.Perm (L.map entOf)) (n : List UInt8) (ho : w'.ownsMap Tryz.prog 9 ptrR m k ((DataW.map es).del (.string n))) :
    MapIs w' (some m) (L.filter (fun p => !(p.1 == n))) := by
  refine ⟨hnd.sublist (List.Sublist.map _ List.filter_sublist), .inr ⟨m, _, rfl, ?_, perm_del hp n⟩⟩
  exact ownsMap_tight ho (by rw [(perm_del hp n).length_eq, List.length_map])

theorem MapIs.stored {w' : World} {m k : Nat} {L : List (List UInt8 × Nat)} {es : List (Lit × DataW Unit)} (hnd : (L.map Prod.fst).Nodup) (hp : es.Perm (L.map entOf)) (n : List UInt8) (c : Nat) (hn : n ∉ L.map Prod.fst)
    (ho : w'.ownsMap Tryz.prog 9 ptrR m k ((DataW.map es).put (.string n) (.lit (.int .i64 (c : Int))))) : MapIs w' (some m) (L ++ [(n, c)]) := by
  have hfil : (L.filter (fun p => !(p.1 == n))) = L := List.filter_eq_self.2 fun q hq => by
    have : q.1 ≠ n := fun e => hn (by rw [← e]; exact List.mem_map_of_mem hq)
    simp [this]
  have hper : (DataW.insert ((Lit.string n, DataW.lit (.int .i64 (c : Int)))) (es.filter fun p => !p.1.sameKey (.string n))).Perm ((L ++ [(n, c)]).map entOf) := by
    refine (Go.WideShapes.insert_perm _ _).trans ?_
    have h1 := perm_del hp n
    rw [hfil] at h1
    rw [List.map_append]
    refine (h1.cons _).trans ?_
    exact (List.perm_append_comm (l₁ := [entOf (n, c)]) (l₂ := L.map entOf))
  refine ⟨?_, .inr ⟨m, _, rfl, ownsMap_tight ho (by rw [hper.length_eq, List.length_map]), hper⟩⟩
  rw [List.map_append, List.nodup_append]
  refine ⟨hnd, by simp, fun a ha b hb => ?_⟩
  simp at hb
  subst hb
  intro e
  subst e
  exact hn ha

theorem MapIs.made (w : World) : MapIs (w.alloc (.map #[] 0)) (some w.heap.size) [] :=
  ⟨by simp, .inr ⟨_, [], rfl, World.ownsMap_made w Tryz.prog 9 ptrR, .refl _⟩⟩

end Go.Proofs.YtjdpglmphacfjaaGreatDoor
