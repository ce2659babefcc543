/-
  Of the texts Bd Tw, in build order, each as it was built alone.
-/
import Derived.Test.YtjmainefmiefcaaGreatPkAH
import Derived.Test.YtjmainefmiefcaaGreatPkAA
import Derived.BigQuiet
import Derived.Lib.Hide

/-
  SessBind's state: the Sessions, the row of the numbers, the array of who has what.
-/
namespace Go.Proofs.YtjmainefmiefcaaGreat
open Go.RowKit

variable {Ses : World → List Nat → Nat → Int → Nat → Int → Nat → List Sq → Prop}

/-- The numbers of broker 1's first m sessions. -/
def fi (m : Nat) : List Int := (List.range m).map fun (i : Nat) => makeZ 1 ((i : Int) + 1)

theorem fi_succ (m : Nat) : fi (m + 1) = fi m ++ [makeZ 1 ((m : Int) + 1)] := by simp [fi, List.range_succ]

theorem fi_length (m : Nat) : (fi m).length = m := by simp [fi]

/-- The first m sessions of broker 1, none bound. -/
def fb (m : Nat) : List Sq := (List.range m).map fun (i : Nat) => (⟨makeZ 1 ((i : Int) + 1), 0, 0⟩ : Sq)

theorem fb_succ (m : Nat) : fb (m + 1) = fb m ++ [⟨makeZ 1 ((m : Int) + 1), 0, 0⟩] := by simp [fb, List.range_succ]

theorem fb_length (m : Nat) : (fb m).length = m := by simp [fb]

/-- The j-th session, bound to t. -/
def sq (t : Int) (j : Nat) : Sq := ⟨makeZ 1 ((j : Int) + 1), t, 0⟩

/-- The four sessions, bound as H says. -/
def bS (H : Nat → Int) : List Sq := (List.range 4).map fun i => sq (H i) i

def upd (H : Nat → Int) (k : Nat) (t : Int) : Nat → Int := fun j => if j = k then t else H j

def bA (H : Nat → Int) (k : Nat) : List Sq := (List.range k).map fun i => sq (H i) i

def bB (H : Nat → Int) (k : Nat) : List Sq := (List.range (3 - k)).map fun i => sq (H (k + 1 + i)) (k + 1 + i)

theorem four {P : Nat → Prop} (h0 : P 0) (h1 : P 1) (h2 : P 2) (h3 : P 3) : ∀ k, k < 4 → P k
  | 0, _ => h0
  | 1, _ => h1
  | 2, _ => h2
  | 3, _ => h3
  | k + 4, h => by omega

theorem bS_split (H : Nat → Int) (t : Int) : ∀ k, k < 4 → bS H = bA H k ++ sq (H k) k :: bB H k ∧ bS (upd H k t) = bA H k ++ sq t k :: bB H k := by
  refine four ?_ ?_ ?_ ?_ <;> exact ⟨rfl, rfl⟩

theorem mem_bS {H : Nat → Int} {q : Sq} (h : q ∈ bS H) : ∃ j, j < 4 ∧ q = sq (H j) j := by
  obtain ⟨j, hj, rfl⟩ := List.mem_map.1 h
  exact ⟨j, List.mem_range.1 hj, rfl⟩

theorem bS_mem (H : Nat → Int) {j : Nat} (h : j < 4) : sq (H j) j ∈ bS H := List.mem_map.2 ⟨j, List.mem_range.2 h, rfl⟩

theorem mem_AB {H : Nat → Int} {k : Nat} (hk : k < 4) {q : Sq} (h : q ∈ bA H k ++ bB H k) : ∃ j, j < 4 ∧ j ≠ k ∧ q = sq (H j) j := by
  rcases List.mem_append.1 h with h | h
  · obtain ⟨j, hj, rfl⟩ := List.mem_map.1 h
    have := List.mem_range.1 hj
    exact ⟨j, by omega, by omega, rfl⟩
  · obtain ⟨j, hj, rfl⟩ := List.mem_map.1 h
    have := List.mem_range.1 hj
    exact ⟨k + 1 + j, by omega, by omega, rfl⟩

def Bd (Ses : World → List Nat → Nat → Int → Nat → Int → Nat → List Sq → Prop) (w wx : World) (g cv hb b ns : Nat) (H : Nat → Int) : Prop :=
  wx.ownsRow 0 2 1 (.slice (some ⟨g, 0, none⟩) 4 cv) 4 (i64s (fi 4)) ∧ wx.heap[hb]? = some (.cells #[.int .i64 (H 0), .int .i64 (H 1), .int .i64 (H 2), .int .i64 (H 3)] 63) ∧ So Ses w wx [g, hb] b 1 4 0 ns (bS H) ∧ g ≠ hb

theorem Bd.bel {w wx : World} {g cv hb b ns : Nat} {H : Nat → Int} (h : Bd Ses w wx g cv hb b ns H) : Below w.heap.size w wx := h.2.2.1.bel

theorem Bd.quiet (F : SF Ses) {w wx w' : World} {g cv hb b ns : Nat} {H : Nat → Int} (h : Bd Ses w wx g cv hb b ns H) (t : Turn [] wx w') : Bd Ses w w' g cv hb b ns H :=
  ⟨ownsRow_turn h.1 t (by simp), t.heap h.2.1 (by simp), h.2.2.1.quiet F t, h.2.2.2⟩

theorem Bd.start (F : SF Ses) {w wx : World} {g cv b ns : Nat} (hr : wx.ownsRow 0 2 1 (.slice (some ⟨g, 0, none⟩) 4 cv) 4 (i64s (fi 4))) (ho : So Ses w wx ([] ++ (Value.slice (some ⟨g, 0, none⟩) 4 cv).ownBlock.toList) b 1 4 0 ns (fb 4)) :
    Bd Ses w (wx.alloc (.cells #[.int .i64 0, .int .i64 0, .int .i64 0, .int .i64 0] 63)) g cv wx.heap.size b ns (fun _ => 0) := by
  have t := Turn.alloc [] wx (.cells #[.int .i64 0, .int .i64 0, .int .i64 0, .int .i64 0] 63)
  have hg := (hr.lt g rfl).2
  refine ⟨ownsRow_turn hr t (by simp), heap_alloc_new wx _, ho.extra F (l := []) t (by simp) (fun k hk => ?_), by omega⟩
  have hs : (wx.alloc (.cells #[.int .i64 0, .int .i64 0, .int .i64 0, .int .i64 0] 63)).heap.size = wx.heap.size + 1 := by simp
  simp only [List.mem_cons, List.not_mem_nil, or_false] at hk
  rcases hk with rfl | rfl
  · exact ⟨.inl (by simp [Value.ownBlock]), by omega⟩
  · exact ⟨.inr (Nat.le_refl _), by omega⟩

theorem Bd.ids {w wx : World} {g cv hb b ns : Nat} {H : Nat → Int} (h : Bd Ses w wx g cv hb b ns H) (j : Nat) (hj : j < 4) : wx.cell? ⟨g, j, none⟩ = some (.int .i64 (makeZ 1 ((j : Int) + 1))) := by
  have e := h.1.cells (g := g) rfl j (.int .i64 (makeZ 1 ((j : Int) + 1))) (by revert j; exact four rfl rfl rfl rfl)
  rw [Addr.add_lit] at e
  simpa using e

theorem Bd.has {w wx : World} {g cv hb b ns : Nat} {H : Nat → Int} (h : Bd Ses w wx g cv hb b ns H) : ∀ j, j < 4 → wx.cell? ⟨hb, j, none⟩ = some (.int .i64 (H j)) := by
  refine four ?_ ?_ ?_ ?_ <;> rw [cell_of_row _ _ _ _ _ _ h.2.1] <;> rfl

/-- No two of the four have the same. -/
def HOk (H : Nat → Int) : Prop := (∀ j, 0 ≤ H j ∧ H j ≤ 3) ∧ ∀ i j, i < 4 → j < 4 → i ≠ j → H i ≠ 0 → H i ≠ H j

theorem make_one : ∀ k : Nat, k < 4 → makeZ 1 ((k : Int) + 1) = 4294967297 + (k : Int) := four (by decide) (by decide) (by decide) (by decide)

theorem make_inj {i j : Nat} (hi : i < 4) (hj : j < 4) (h : makeZ 1 ((i : Int) + 1) = makeZ 1 ((j : Int) + 1)) : i = j := by
  rw [make_one i hi, make_one j hj] at h
  omega

theorem make_i64 {i : Nat} (hi : i < 4) : inI64 (makeZ 1 ((i : Int) + 1)) := by
  rw [make_one i hi]
  unfold inI64
  omega

/-- A Bind that may be. -/
theorem Bd.bind_ok (F : SF Ses) {w wx : World} {g cv hb b ns : Nat} {H : Nat → Int} (h : Bd Ses w wx g cv hb b ns H) {k : Nat} (hk : k < 4) {t : Int} (ht : 0 ≤ t ∧ t ≤ 3) (hf : t = 0 ∨ ∀ j, j < 4 → j ≠ k → H j ≠ t) (hn : ns ≤ 1000) :
    Calls Tryz.prog 30 #[.pointer (some ⟨b, 0, none⟩), .int .i64 (makeZ 1 ((k : Int) + 1)), .int .i64 t] wx fun e w' => e = .returned (.bool true) ∧ w'.ownsRow 0 2 1 (.slice (some ⟨g, 0, none⟩) 4 cv) 4 (i64s (fi 4)) ∧ w'.heap[hb]? = some (.cells #[.int .i64 (H 0), .int .i64 (H 1), .int .i64 (H 2), .int .i64 (H 3)] 63) ∧ So Ses w w' [g, hb] b 1 4 0 (ns + 1) (bS (upd H k t)) := by
  obtain ⟨h1, h2, h3, h4⟩ := h
  obtain ⟨e1, e2⟩ := bS_split H t k hk
  refine (h3.call (br' := 1) (made' := 4) (tk' := 0) (ns' := ns + 1) (S' := bS (upd H k t)) (R := fun e _ => e = .returned (.bool true)) (fun os hs => ?_)).mono ?_
  · rw [e1] at hs
    rw [e2]
    refine (F.bind_is (q := sq (H k) k) hs hn (by unfold inI64; omega) ?_).mono ?_
    · rcases hf with hf | hf
      · exact .inl hf
      · refine .inr (fun r hr => ?_)
        obtain ⟨j, hj, hjk, rfl⟩ := mem_AB hk hr
        exact hf j hj hjk
    · rintro e w' ⟨os', rfl, h5, s5⟩
      exact ⟨os', rfl, h5, s5⟩
  · rintro e w' ⟨rfl, h5, off⟩
    exact ⟨rfl, off.row h1 (fun i hi => by cases hi; simp), off.heap (by simp) h2, h5⟩

/-- A Bind that may not be. -/
theorem Bd.bind_no (F : SF Ses) {w wx : World} {g cv hb b ns : Nat} {H : Nat → Int} (h : Bd Ses w wx g cv hb b ns H) {k : Nat} (hk : k < 4) {t : Int} (ht : 0 < t ∧ t ≤ 3) (hf : ∃ j, j < 4 ∧ j ≠ k ∧ H j = t) (hn : ns ≤ 1000) :
    Calls Tryz.prog 30 #[.pointer (some ⟨b, 0, none⟩), .int .i64 (makeZ 1 ((k : Int) + 1)), .int .i64 t] wx fun e w' => e = .returned (.bool false) ∧ Bd Ses w w' g cv hb b (ns + 1) H := by
  obtain ⟨h1, h2, h3, h4⟩ := h
  obtain ⟨j, hj, hjk, hjt⟩ := hf
  refine (h3.call (br' := 1) (made' := 4) (tk' := 0) (ns' := ns + 1) (S' := bS H) (R := fun e _ => e = .returned (.bool false)) (fun os hs => ?_)).mono ?_
  · refine (F.bind_other hs hn (make_i64 hk) (by unfold inI64; omega) (.inr ⟨by omega, sq (H j) j, bS_mem H hj, hjt, fun e => hjk (make_inj hj hk e)⟩)).mono ?_
    rintro e w' ⟨os', rfl, h5, s5⟩
    exact ⟨os', rfl, h5, s5⟩
  · rintro e w' ⟨rfl, h5, off⟩
    exact ⟨rfl, off.row h1 (fun i hi => by cases hi; simp), off.heap (by simp) h2, h5, h4⟩

theorem Bd.tid (F : SF Ses) {w wx : World} {g cv hb b ns : Nat} {H : Nat → Int} (h : Bd Ses w wx g cv hb b ns H) {k : Nat} (hk : k < 4) :
    Calls Tryz.prog 33 #[.pointer (some ⟨b, 0, none⟩), .int .i64 (makeZ 1 ((k : Int) + 1))] wx fun e w' => e = .returned (.int .i64 (H k)) ∧ Turn [] wx w' := by
  obtain ⟨ow, hs, -⟩ := h.2.2.1
  exact F.tid_is (q := sq (H k) k) hs (bS_mem H hk)

theorem Bd.of (F : SF Ses) {w wx : World} {g cv hb b ns : Nat} {H : Nat → Int} (h : Bd Ses w wx g cv hb b ns H) {k : Nat} (hk : k < 4) (h0 : H k ≠ 0) :
    Calls Tryz.prog 34 #[.pointer (some ⟨b, 0, none⟩), .int .i64 (H k)] wx fun e w' => e = .returned (.int .i64 (makeZ 1 ((k : Int) + 1))) ∧ Turn [] wx w' := by
  obtain ⟨ow, hs, -⟩ := h.2.2.1
  exact F.of_is (q := sq (H k) k) hs (bS_mem H hk) h0

end Go.Proofs.YtjmainefmiefcaaGreat


/-
  A region that draws its order, whose operations only read, and whose callees read and may lay blocks of their own: walked once, in the order of the text, in the class of the worlds in which nothing that was there has turned.
-/
namespace Go.Proofs.YtjmainefmiefcaaGreat
open Go Go.RowKit

/-- A world in which nothing of y has turned. -/
structure Tw (y : World) where
  x : World
  t : Turn [] y x

instance (y : World) : Inhabited (Tw y) := ⟨⟨y, Turn.refl [] y⟩⟩

theorem Tw.cell {y : World} (p : Tw y) {a : Addr} {v : Value} (h : y.cell? a = some v) : p.x.cell? a = some v := p.t.cell h (by simp)

theorem quiet_turn {P : Program} {id : Nat} {Q : Exit → Act → World → Prop} {a : Act} {w : World} {l : List Oper} (hm : P.follows .mixedOrders = true) (hB : Region.lexB .any l.toArray = true)
    (h : wpQuiet P l.toArray (fun w' => ∃ p : Tw w, w' = p.x) (fun a' => ∀ w', (∃ p : Tw w, w' = p.x) → Q .normal a' w') l a) : (Code.region id l.toArray true).wp P Q a w :=
  wp_region_quiet (C := fun w' => ∃ p : Tw w, w' = p.x) hm hB ⟨⟨w.drew, Turn.drew [] w⟩, rfl⟩ (by simpa using h)

/-- The order of the text serves: shown once. -/
theorem quiet_lex {P : Program} {id : Nat} {Q : Exit → Act → World → Prop} {a : Act} {w : World} {l : List Oper} (hB : Region.lexB .any l.toArray = true) (h : Hid (Region.lexB .any l.toArray = true) → (Code.region id l.toArray true).wp P Q a w) : (Code.region id l.toArray true).wp P Q a w := h (Lib.hid hB)

/-- A callee's contract, met in a world of the class. -/
theorem Tw.call {P : Program} {y : World} {f : FuncId} {args : Array Value} {v : Value} (h : ∀ x, Turn [] y x → Calls P f args x fun e w' => e = .returned v ∧ Turn [] x w') (p : Tw y) : Calls P f args p.x fun e w' => e = .returned v ∧ ∃ q : Tw y, w' = q.x :=
  (h p.x p.t).mono fun _ _ h => ⟨h.1, ⟨_, p.t.trans h.2 (by simp)⟩, rfl⟩

theorem Tw.same {P : Program} {y : World} {f : FuncId} {args : Array Value} {v : Value} (h : ∀ x, Calls P f args x fun e w' => e = .returned v ∧ x = w') (p : Tw y) : Calls P f args p.x fun e w' => e = .returned v ∧ ∃ q : Tw y, w' = q.x :=
  (h p.x).mono fun _ _ h => ⟨h.1, p, h.2.symm⟩

theorem Tw.drawn {P : Program} {y : World} {f : FuncId} {args : Array Value} {v : Value} (h : ∀ x, Turn [] y x → Calls P f args x fun e w' => e = .returned v ∧ ∃ d, w' = x.drewN d) (p : Tw y) : Calls P f args p.x fun e w' => e = .returned v ∧ ∃ q : Tw y, w' = q.x :=
  (h p.x p.t).mono fun _ _ h => ⟨h.1, ⟨p.x.drewN h.2.choose, p.t.trans (Turn.drewN [] _ _) (by simp)⟩, h.2.choose_spec⟩

end Go.Proofs.YtjmainefmiefcaaGreat
