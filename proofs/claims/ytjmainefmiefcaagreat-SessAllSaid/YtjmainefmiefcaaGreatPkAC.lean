/-
  Of the texts Lk LkC LkG LkL LkM LkA Lw OneQ, in build order, each as it was built alone.
-/
import Derived.Test.YtjmainefmiefcaaGreatPkAA
import Derived.Test.YtjmainefmiefcaaGreatPkAB
import Derived.Deep.CutRange
import Derived.Carry

/-
  Who holds what, in memory.
-/
namespace Go.Proofs.YtjmainefmiefcaaGreat
open Go.RowKit

/-- One that goes on: its number, how many operations, what it puts, when it was heard of. -/
structure Gq where
  tid : Int
  n : Int
  puts : List (ByteArray × ByteArray)
  heard : Int

/-- .. and where its puts lie. -/
abbrev Gn := Gq × Value

def kz : Value := .agg #[.int .i64 0, .slice none 0 0]

def gcell (n : Int) (v : Value) : Value := .agg #[.int .i64 n, v]

def partOf : List Gn → Int → Value
  | [], _ => kz
  | g :: K, y => if y = g.1.tid then gcell g.1.n g.2 else partOf K y

theorem partOf_ins (g : Gn) (B : List Gn) (y : Int) : ∀ A : List Gn, (∀ a ∈ A, a.1.tid < g.1.tid) → partOf (A ++ g :: B) y = if y = g.1.tid then gcell g.1.n g.2 else partOf (A ++ B) y
  | [], _ => rfl
  | a :: A, h => by
    have ih := partOf_ins g B y A (fun x hx => h x (by simp [hx]))
    have ha := h a (by simp)
    show (if y = a.1.tid then gcell a.1.n a.2 else partOf (A ++ g :: B) y) = if y = g.1.tid then gcell g.1.n g.2 else (if y = a.1.tid then gcell a.1.n a.2 else partOf (A ++ B) y)
    rw [ih]
    by_cases e : y = a.1.tid
    · rw [if_pos e, if_neg (by omega), if_pos e]
    · rw [if_neg e, if_neg e]

theorem partOf_none {y : Int} : ∀ {K : List Gn}, (∀ a ∈ K, a.1.tid ≠ y) → partOf K y = kz
  | [], _ => rfl
  | a :: K, h => by
    show (if y = a.1.tid then gcell a.1.n a.2 else partOf K y) = kz
    rw [if_neg (fun e => h a (by simp) e.symm)]
    exact partOf_none (fun x hx => h x (by simp [hx]))

/-- A row's block has the row's cells. -/
theorem row_block {w : World} {base : Nat} {e : TypeId} {size : Nat} {v : Value} {n : Nat} {xs : List Value} (h : w.ownsRow base e size v n xs) {k : Nat} (hk : v.ownBlock = some k) : ∃ cs, w.heap[k]? = some (.cells cs e) := by
  rcases h.2 with ⟨rfl, -⟩ | ⟨g, cap, cur, rfl, hB, hg, -⟩
  · cases hk
  · cases hk
    exact ⟨cur, hg⟩

theorem ty_ne {w : World} {j k : Nat} {c d : Array Value} {s t : TypeId} (hj : w.heap[j]? = some (.cells c s)) (hk : w.heap[k]? = some (.cells d t)) (hst : s ≠ t) : j ≠ k := by
  rintro rfl
  rw [hj] at hk
  injection hk with hk
  injection hk with h1 h2
  exact hst h2

abbrev Pts := List (ByteArray × ByteArray)

/-- Who goes on, but for x; and what x has (n: 0, nothing, where x is none). -/
structure Hole (w : World) (ow : List Nat) (b tb mb nm : Nat) (ticks : Int) (tv : Value) (KT : List (Int × Int)) (A B : List Gn) (x n : Int) (P : Pts) (vo : Value) : Prop where
  head : w.heap[b]? = some (.cells #[.pointer (some ⟨tb, 0, none⟩), .map (some mb)] 69)
  tim : L.TimI w tb 6 ticks tv KT
  map : Mp w mb nm kz (fun y => if y = x then gcell n vo else partOf (A ++ B) y)
  rows : ∀ g ∈ A ++ B, w.ownsRow 0 28 2 g.2 g.1.puts.length (pcells g.1.puts)
  row : w.ownsRow 0 28 2 vo P.length (pcells P)
  sep : (A ++ B).Pairwise fun g h => ∀ k, g.2.ownBlock = some k → h.2.ownBlock ≠ some k
  sepv : ∀ g ∈ A ++ B, ∀ k, vo.ownBlock = some k → g.2.ownBlock ≠ some k
  risA : ∀ g ∈ A, g.1.tid < x
  risB : ∀ g ∈ B, x < g.1.tid
  ris : (A ++ B).Pairwise fun g h => g.1.tid < h.1.tid
  hb : b ∈ ow
  htb : tb ∈ ow
  hmb : mb ∈ ow
  htv : ∀ k, tv.ownBlock = some k → k ∈ ow
  hrow : ∀ g ∈ A ++ B, ∀ k, g.2.ownBlock = some k → k ∈ ow
  hvo : ∀ k, vo.ownBlock = some k → k ∈ ow
  nums : ∀ g ∈ A ++ B, inI64 g.1.tid ∧ 0 ≤ g.1.n ∧ g.1.n ≤ 10 ∧ g.1.puts.length ≤ 10
  numx : inI64 x ∧ 0 ≤ n ∧ n ≤ 10 ∧ P.length ≤ 10
  fit : ∀ g ∈ A ++ B, ∀ p ∈ g.1.puts, p.1.size ≤ 9223372036854775807 ∧ p.2.size ≤ 9223372036854775807
  fitP : ∀ p ∈ P, p.1.size ≤ 9223372036854775807 ∧ p.2.size ≤ 9223372036854775807
  few : nm ≤ 100000 ∧ (A ++ B).length ≤ 900

/-- Who goes on. -/
structure Lk (w : World) (ow : List Nat) (b tb mb nm : Nat) (ticks : Int) (tv : Value) (KT : List (Int × Int)) (K : List Gn) : Prop where
  head : w.heap[b]? = some (.cells #[.pointer (some ⟨tb, 0, none⟩), .map (some mb)] 69)
  tim : L.TimI w tb 6 ticks tv KT
  map : Mp w mb nm kz (partOf K)
  rows : ∀ g ∈ K, w.ownsRow 0 28 2 g.2 g.1.puts.length (pcells g.1.puts)
  sep : K.Pairwise fun g h => ∀ k, g.2.ownBlock = some k → h.2.ownBlock ≠ some k
  ris : K.Pairwise fun g h => g.1.tid < h.1.tid
  hb : b ∈ ow
  htb : tb ∈ ow
  hmb : mb ∈ ow
  htv : ∀ k, tv.ownBlock = some k → k ∈ ow
  hrow : ∀ g ∈ K, ∀ k, g.2.ownBlock = some k → k ∈ ow
  nums : ∀ g ∈ K, inI64 g.1.tid ∧ 0 ≤ g.1.n ∧ g.1.n ≤ 10 ∧ g.1.puts.length ≤ 10
  fit : ∀ g ∈ K, ∀ p ∈ g.1.puts, p.1.size ≤ 9223372036854775807 ∧ p.2.size ≤ 9223372036854775807
  few : nm ≤ 100000 ∧ K.length ≤ 901

theorem Lk.turn {l : List Nat} {w w' : World} {ow : List Nat} {b tb mb nm : Nat} {ticks : Int} {tv : Value} {KT : List (Int × Int)} {K : List Gn} (h : Lk w ow b tb mb nm ticks tv KT K) (t : Turn l w w') (hl : ∀ k ∈ l, k ∉ ow) : Lk w' ow b tb mb nm ticks tv KT K :=
  ⟨t.heap h.head (fun e => hl _ e h.hb), h.tim.turn t (fun e => hl _ e h.htb) (fun k hk e => hl _ e (h.htv k hk)), h.map.turn t (fun e => hl _ e h.hmb), fun g hg => ownsRow_turn (h.rows g hg) t (fun k hk e => hl _ e (h.hrow g hg k hk)), h.sep, h.ris, h.hb, h.htb, h.hmb, h.htv, h.hrow, h.nums, h.fit, h.few⟩

theorem Hole.turn {l : List Nat} {w w' : World} {ow : List Nat} {b tb mb nm : Nat} {ticks : Int} {tv : Value} {KT : List (Int × Int)} {A B : List Gn} {x n : Int} {P : Pts} {vo : Value} (h : Hole w ow b tb mb nm ticks tv KT A B x n P vo) (t : Turn l w w') (hl : ∀ k ∈ l, k ∉ ow) : Hole w' ow b tb mb nm ticks tv KT A B x n P vo :=
  ⟨t.heap h.head (fun e => hl _ e h.hb), h.tim.turn t (fun e => hl _ e h.htb) (fun k hk e => hl _ e (h.htv k hk)), h.map.turn t (fun e => hl _ e h.hmb), fun g hg => ownsRow_turn (h.rows g hg) t (fun k hk e => hl _ e (h.hrow g hg k hk)), ownsRow_turn h.row t (fun k hk e => hl _ e (h.hvo k hk)), h.sep, h.sepv, h.risA, h.risB, h.ris, h.hb, h.htb, h.hmb, h.htv, h.hrow, h.hvo, h.nums, h.numx, h.fit, h.fitP, h.few⟩

/-- x is none. -/
theorem Lk.absent {w : World} {ow : List Nat} {b tb mb nm : Nat} {ticks : Int} {tv : Value} {KT : List (Int × Int)} {A B : List Gn} (h : Lk w ow b tb mb nm ticks tv KT (A ++ B)) (hf : (A ++ B).length ≤ 900) {x : Int} (hx : inI64 x) (hA : ∀ g ∈ A, g.1.tid < x) (hB : ∀ g ∈ B, x < g.1.tid) : Hole w ow b tb mb nm ticks tv KT A B x 0 [] (.slice none 0 0) := by
  have e : partOf (A ++ B) = (fun y => if y = x then gcell 0 (.slice none 0 0) else partOf (A ++ B) y) := by
    funext y
    split
    · next e =>
      refine partOf_none (fun a ha => ?_)
      rcases List.mem_append.1 ha with h1 | h1
      · have := hA a h1; omega
      · have := hB a h1; omega
    · rfl
  exact ⟨h.head, h.tim, by rw [← e]; exact h.map, h.rows, World.ownsRow_nil _ _ _ _, h.sep, (fun g _ k hk => by cases hk), hA, hB, h.ris, h.hb, h.htb, h.hmb, h.htv, h.hrow, (fun k hk => by cases hk), h.nums, ⟨hx, by omega, by omega, by simp⟩, h.fit, by simp, ⟨h.few.1, hf⟩⟩

theorem pair_mid {α : Type} {R : α → α → Prop} {A B : List α} {g : α} (h : (A ++ g :: B).Pairwise R) : (A ++ B).Pairwise R ∧ (∀ a ∈ A, R a g) ∧ ∀ c ∈ B, R g c := by
  rw [List.pairwise_append, List.pairwise_cons] at h
  obtain ⟨h1, ⟨h2, h3⟩, h4⟩ := h
  exact ⟨List.pairwise_append.2 ⟨h1, h3, fun a ha c hc => h4 a ha c (by simp [hc])⟩, fun a ha => h4 a ha g (by simp), h2⟩

theorem pair_ins {α : Type} {R : α → α → Prop} {A B : List α} {g : α} (h : (A ++ B).Pairwise R) (hA : ∀ a ∈ A, R a g) (hB : ∀ c ∈ B, R g c) : (A ++ g :: B).Pairwise R := by
  obtain ⟨h1, h2, h3⟩ := List.pairwise_append.1 h
  refine List.pairwise_append.2 ⟨h1, List.pairwise_cons.2 ⟨hB, h2⟩, fun a ha c hc => ?_⟩
  rcases List.mem_cons.1 hc with rfl | hc
  · exact hA a ha
  · exact h3 a ha c hc

theorem mem_mid {α : Type} {A B : List α} {g a : α} (h : a ∈ A ++ B) : a ∈ A ++ g :: B := by
  rcases List.mem_append.1 h with h | h
  · exact List.mem_append.2 (.inl h)
  · exact List.mem_append.2 (.inr (by simp [h]))

theorem mem_mid' {α : Type} {A B : List α} {g a : α} (h : a ∈ A ++ g :: B) : a = g ∨ a ∈ A ++ B := by
  rcases List.mem_append.1 h with h | h
  · exact .inr (List.mem_append.2 (.inl h))
  · rcases List.mem_cons.1 h with h | h
    · exact .inl h
    · exact .inr (List.mem_append.2 (.inr h))

/-- x is one. -/
theorem Lk.present {w : World} {ow : List Nat} {b tb mb nm : Nat} {ticks : Int} {tv : Value} {KT : List (Int × Int)} {A B : List Gn} {g : Gn} (h : Lk w ow b tb mb nm ticks tv KT (A ++ g :: B)) : Hole w ow b tb mb nm ticks tv KT A B g.1.tid g.1.n g.1.puts g.2 := by
  obtain ⟨r1, r2, r3⟩ := pair_mid h.ris
  obtain ⟨s1, s2, s3⟩ := pair_mid h.sep
  have hg : g ∈ A ++ g :: B := by simp
  have e : partOf (A ++ g :: B) = (fun y => if y = g.1.tid then gcell g.1.n g.2 else partOf (A ++ B) y) := by
    funext y
    exact partOf_ins g B y A r2
  exact ⟨h.head, h.tim, by rw [← e]; exact h.map, fun a ha => h.rows a (mem_mid ha), h.rows g hg, s1, (fun a ha k hk e2 => by
    rcases List.mem_append.1 ha with h1 | h1
    · exact s2 a h1 k e2 hk
    · exact s3 a h1 k hk e2), r2, r3, r1, h.hb, h.htb, h.hmb, h.htv, fun a ha => h.hrow a (mem_mid ha), h.hrow g hg, fun a ha => h.nums a (mem_mid ha), h.nums g hg, fun a ha => h.fit a (mem_mid ha), h.fit g hg, ⟨h.few.1, by have := h.few.2; simp at this ⊢; omega⟩⟩

/-- x is filled in: another world, in which the map has it, and its row lies somewhere. -/
theorem Hole.fill {w w' : World} {ow : List Nat} {b tb mb nm nm' : Nat} {ticks : Int} {tv : Value} {KT : List (Int × Int)} {A B : List Gn} {x n : Int} {P : Pts} {vo : Value} (h : Hole w ow b tb mb nm ticks tv KT A B x n P vo) {n' : Int} {P' : Pts} {v' : Value} {t' : Int}
    (t : Turn (mb :: vo.ownBlock.toList) w w') (hm : Mp w' mb nm' kz (fun y => if y = x then gcell n' v' else if y = x then gcell n vo else partOf (A ++ B) y)) (hn : nm' ≤ 100000)
    (hr : w'.ownsRow 0 28 2 v' P'.length (pcells P')) (ho : v'.ownBlock = vo.ownBlock ∨ ∀ k, v'.ownBlock = some k → w.heap.size ≤ k) (h0 : 0 ≤ n' ∧ n' ≤ 10 ∧ P'.length ≤ 10) (hfit : ∀ p ∈ P', p.1.size ≤ 9223372036854775807 ∧ p.2.size ≤ 9223372036854775807) :
    Lk w' (ow ++ v'.ownBlock.toList) b tb mb nm' ticks tv KT (A ++ (⟨x, n', P', t'⟩, v') :: B) := by
  have htb : tb ∉ mb :: vo.ownBlock.toList := by
    intro e
    rcases List.mem_cons.1 e with e | e
    · exact h.map.ne h.tim.head e
    · obtain ⟨cs, hc⟩ := row_block h.row (Option.mem_toList.1 e)
      exact ty_ne hc h.tim.head (by decide) rfl
  have hbb : b ∉ mb :: vo.ownBlock.toList := by
    intro e
    rcases List.mem_cons.1 e with e | e
    · exact h.map.ne h.head e
    · obtain ⟨cs, hc⟩ := row_block h.row (Option.mem_toList.1 e)
      exact ty_ne hc h.head (by decide) rfl
  have htv : ∀ k, tv.ownBlock = some k → k ∉ mb :: vo.ownBlock.toList := by
    intro k hk e
    obtain ⟨c2, hc2⟩ := row_block h.tim.row hk
    rcases List.mem_cons.1 e with e | e
    · exact h.map.ne hc2 e
    · obtain ⟨cs, hc⟩ := row_block h.row (Option.mem_toList.1 e)
      exact ty_ne hc hc2 (by decide) rfl
  have hrw : ∀ g ∈ A ++ B, ∀ k, g.2.ownBlock = some k → k ∉ mb :: vo.ownBlock.toList := by
    intro g hg k hk e
    obtain ⟨c2, hc2⟩ := row_block (h.rows g hg) hk
    rcases List.mem_cons.1 e with e | e
    · exact h.map.ne hc2 e
    · exact h.sepv g hg k (Option.mem_toList.1 e) hk
  have hsv : ∀ g ∈ A ++ B, ∀ k, v'.ownBlock = some k → g.2.ownBlock ≠ some k := by
    intro g hg k hk e
    rcases ho with ho | ho
    · exact h.sepv g hg k (by rw [← ho]; exact hk) e
    · obtain ⟨c2, hc2⟩ := row_block (h.rows g hg) e
      have := lt_of_heap hc2
      have := ho k hk
      omega
  have e : (fun y => if y = x then gcell n' v' else if y = x then gcell n vo else partOf (A ++ B) y) = partOf (A ++ (⟨x, n', P', t'⟩, v') :: B) := by
    funext y
    rw [partOf_ins (⟨x, n', P', t'⟩, v') B y A h.risA]
    split
    · rfl
    · rfl
  refine ⟨t.heap h.head hbb, h.tim.turn t htb htv, by rw [← e]; exact hm, fun g hg => ?_, pair_ins h.sep (fun a ha k hk e2 => hsv a (List.mem_append.2 (.inl ha)) k e2 hk) (fun a ha k hk => hsv a (List.mem_append.2 (.inr ha)) k hk), pair_ins h.ris h.risA h.risB, by simp [h.hb], by simp [h.htb], by simp [h.hmb], fun k hk => List.mem_append.2 (.inl (h.htv k hk)), fun g hg k hk => ?_, fun g hg => ?_, fun g hg => ?_, ⟨hn, by have := h.few.2; simp at this ⊢; omega⟩⟩
  · rcases mem_mid' hg with rfl | hg
    · exact hr
    · exact ownsRow_turn (h.rows g hg) t (hrw g hg)
  · rcases mem_mid' hg with rfl | hg
    · exact List.mem_append.2 (.inr (Option.mem_toList.2 hk))
    · exact List.mem_append.2 (.inl (h.hrow g hg k hk))
  · rcases mem_mid' hg with rfl | hg
    · exact ⟨h.numx.1, h0⟩
    · exact h.nums g hg
  · rcases mem_mid' hg with rfl | hg
    · exact hfit
    · exact h.fit g hg

/-- The timer is another one now. -/
theorem Lk.times {w w' : World} {ow : List Nat} {b tb mb nm : Nat} {ticks ticks' : Int} {tv tv' : Value} {KT KT' : List (Int × Int)} {K : List Gn} (h : Lk w ow b tb mb nm ticks tv KT K) (h2 : L.TimI w' tb 6 ticks' tv' KT')
    (t : Turn (tb :: tv.ownBlock.toList) w w') : Lk w' (ow ++ tv'.ownBlock.toList) b tb mb nm ticks' tv' KT' K := by
  have hbb : b ∉ tb :: tv.ownBlock.toList := by
    intro e
    rcases List.mem_cons.1 e with e | e
    · exact ty_ne h.head h.tim.head (by decide) e
    · obtain ⟨cs, hc⟩ := row_block h.tim.row (Option.mem_toList.1 e)
      exact ty_ne hc h.head (by decide) rfl
  have hmb : mb ∉ tb :: tv.ownBlock.toList := by
    intro e
    rcases List.mem_cons.1 e with e | e
    · exact h.map.ne h.tim.head e.symm
    · obtain ⟨cs, hc⟩ := row_block h.tim.row (Option.mem_toList.1 e)
      exact h.map.ne hc rfl
  have hrw : ∀ g ∈ K, ∀ k, g.2.ownBlock = some k → k ∉ tb :: tv.ownBlock.toList := by
    intro g hg k hk e
    obtain ⟨c2, hc2⟩ := row_block (h.rows g hg) hk
    rcases List.mem_cons.1 e with e | e
    · exact ty_ne hc2 h.tim.head (by decide) e
    · obtain ⟨cs, hc⟩ := row_block h.tim.row (Option.mem_toList.1 e)
      exact ty_ne hc2 hc (by decide) rfl
  exact ⟨t.heap h.head hbb, h2, h.map.turn t hmb, fun g hg => ownsRow_turn (h.rows g hg) t (hrw g hg), h.sep, h.ris, by simp [h.hb], by simp [h.htb], by simp [h.hmb], fun k hk => List.mem_append.2 (.inr (Option.mem_toList.2 hk)), fun g hg k hk => List.mem_append.2 (.inl (h.hrow g hg k hk)), h.nums, h.fit, h.few⟩

/-- What is owned grows by new blocks alone; only what is owned turns. -/
structure Stp (ow ow' : List Nat) (w w' : World) : Prop where
  new : ∀ k ∈ ow', k ∈ ow ∨ w.heap.size ≤ k
  old : ∀ k ∈ ow, k ∈ ow'
  turn : Turn ow w w'

theorem Stp.trans {ow ow' ow2 : List Nat} {w w' w2 : World} (h : Stp ow ow' w w') (k : Stp ow' ow2 w' w2) : Stp ow ow2 w w2 :=
  ⟨fun i hi => by
    rcases k.new i hi with h1 | h1
    · exact h.new i h1
    · exact .inr (Nat.le_trans h.turn.size h1), fun i hi => k.old i (h.old i hi), h.turn.trans k.turn h.new⟩

theorem Stp.of {ow l : List Nat} {w w' : World} {v' : Value} (t : Turn l w w') (hl : ∀ k ∈ l, k ∈ ow) (ho : ∀ k, v'.ownBlock = some k → k ∈ ow ∨ w.heap.size ≤ k) : Stp ow (ow ++ v'.ownBlock.toList) w w' :=
  ⟨fun k hk => by
    rcases List.mem_append.1 hk with h | h
    · exact .inl h
    · exact ho k (Option.mem_toList.1 h), fun _ h => List.mem_append.2 (.inl h), t.mono (fun i hi => .inl (hl i hi))⟩

theorem Stp.quiet {ow : List Nat} {w w' : World} (t : Turn [] w w') : Stp ow ow w w' := ⟨fun _ h => .inl h, fun _ h => h, t.mono (by simp)⟩

end Go.Proofs.YtjmainefmiefcaaGreat


/-
  A Locks' own calls: heard, part, N, Puts, Touch, goOn.
-/
namespace Go.Proofs.YtjmainefmiefcaaGreat
open Go.RowKit

set_option maxRecDepth 100000 in
theorem heard_calls {w : World} {b tb mb : Nat} (h : w.heap[b]? = some (.cells #[.pointer (some ⟨tb, 0, none⟩), .map (some mb)] 69)) :
    Calls Tryz.prog 40 #[.pointer (some ⟨b, 0, none⟩)] w fun e w' => e = .returned (.pointer (some ⟨tb, 0, none⟩)) ∧ w' = w := by
  have c0 : w.cell? ⟨b, 0, none⟩ = some (.pointer (some ⟨tb, 0, none⟩)) := by rw [cell_of_row _ _ _ _ _ _ h]; rfl
  clear h
  go_enter Tryz.func40, Tryz.ntmps40
  go_wp2
  go_ret
  exact ⟨rfl, rfl⟩

theorem heard_nil (w : World) : Calls Tryz.prog 40 #[.pointer none] w fun e w' => e = .returned (.pointer none) ∧ w' = w := by
  go_enter Tryz.func40, Tryz.ntmps40
  go_wp2
  go_ret
  exact ⟨rfl, rfl⟩

theorem zero_part (w : World) : (zeroValue 73).run Tryz.prog w = .ok kz w := by kernel_rfl

theorem cell2_put {w : World} {g : Nat} {a b : Value} {T : TypeId} (h : w.heap[g]? = some (.cells #[a, b] T)) (u v : Value) : ((w.setCell ⟨g, 0, none⟩ u).setCell ⟨g, 1, none⟩ v).heap[g]? = some (.cells #[u, v] T) :=
  block_set (i := 1) (block_set (i := 0) h u) v

theorem cell2_turn (w : World) (g : Nat) (u v : Value) : Turn [g] w ((w.setCell ⟨g, 0, none⟩ u).setCell ⟨g, 1, none⟩ v) := (Turn.setCell (l := [g]) w (by simp) u).trans (Turn.setCell (l := [g]) _ (by simp) v) (fun i hi => .inl hi)

theorem cell2_of {w : World} {g : Nat} {v0 v1 : Value} {t : TypeId} (h : w.heap[g]? = some (.cells #[v0, v1] t)) : w.cell? ⟨g, 0, none⟩ = some v0 ∧ w.cell? ⟨g, 1, none⟩ = some v1 := by
  refine ⟨?_, ?_⟩ <;> rw [cell_of_row _ _ _ _ _ _ h] <;> rfl

set_option maxHeartbeats 2000000 in
set_option maxRecDepth 100000 in
theorem part_calls {w : World} {ow : List Nat} {b tb mb nm : Nat} {ticks : Int} {tv : Value} {KT : List (Int × Int)} {A B : List Gn} {x n : Int} {P : Pts} {vo : Value} (h : Hole w ow b tb mb nm ticks tv KT A B x n P vo) :
    Calls Tryz.prog 45 #[.pointer (some ⟨b, 0, none⟩), .int .i64 x] w fun e w' => e = .returned (gcell n vo) ∧ Turn [] w w' := by
  obtain ⟨ao, cp, hv⟩ := put_form h.row
  have hx := h.numx.1
  have lk := (h.map.turn (Turn.alloc [] w (.cells #[.int .i64 0, .slice none 0 0] 73)) (by simp)).look Tryz.underlying67 (zero_part _) hx
  rw [if_pos rfl, hv] at lk
  have c1 : (w.alloc (.cells #[.int .i64 0, .slice none 0 0] 73)).cell? ⟨b, 1, none⟩ = some (.map (some mb)) := by rw [cell_of_row _ _ _ _ _ _ ((Turn.alloc [] w _).heap h.head (by simp))]; rfl
  have hq := heap_alloc_new w (.cells #[.int .i64 0, .slice none 0 0] 73)
  have fr : ∀ j, (w.alloc (.cells #[.int .i64 0, .slice none 0 0] 73)).frozen? ⟨w.heap.size, j, none⟩ = false := fun j => unfrozen_of hq
  obtain ⟨m, hm⟩ : ∃ m, m = P.length := ⟨_, rfl⟩
  rw [← hm] at lk hv
  obtain ⟨d0, d1⟩ := cell2_of hq
  have NH := Lib.hid (heap_alloc_new w (.cells #[.int .i64 n, .slice ao m cp] 73))
  have TF := Lib.hid (Turn.alloc [] w (.cells #[.int .i64 n, .slice ao m cp] 73))
  rw [hv]
  unfold gcell at lk ⊢
  clear h hm hx hv hq
  go_enter Tryz.func45, Tryz.ntmps45
  go_wp2_with fail
  refine bodyPost_ret_by (results_cell_row rfl _ _ w.heap.size 73 _ (0, 0) _ rfl NH.out Tryz.underlying73 rfl (by kernel_rfl)) rfl ?_
  exact ⟨rfl, TF.out⟩

set_option maxHeartbeats 2000000 in
set_option maxRecDepth 100000 in
theorem part_nil (x : Int) (w : World) : Calls Tryz.prog 45 #[.pointer none, .int .i64 x] w fun e w' => e = .returned kz ∧ Turn [] w w' := by
  have hq := heap_alloc_new w (.cells #[.int .i64 0, .slice none 0 0] 73)
  have fr : ∀ j, (w.alloc (.cells #[.int .i64 0, .slice none 0 0] 73)).frozen? ⟨w.heap.size, j, none⟩ = false := fun j => unfrozen_of hq
  obtain ⟨d0, d1⟩ := cell2_of hq
  have NH := Lib.hid hq
  have TF := Lib.hid (Turn.alloc [] w (.cells #[.int .i64 0, .slice none 0 0] 73))
  clear hq
  go_enter Tryz.func45, Tryz.ntmps45
  go_wp2_with fail
  refine bodyPost_ret_by (results_cell_row rfl _ _ w.heap.size 73 _ (0, 0) _ rfl NH.out Tryz.underlying73 rfl (by kernel_rfl)) rfl ?_
  exact ⟨rfl, TF.out⟩

theorem field_n (n : Int) (v : Value) (z : World) : (Instr.field 73 (.agg #[.int .i64 n, v]) 0).run Tryz.prog z = .ok (.int .i64 n) z := by kernel_rfl

theorem field_v (n : Int) (ao : Option Addr) (m c : Nat) (z : World) : (Instr.field 73 (.agg #[.int .i64 n, .slice ao m c]) 1).run Tryz.prog z = .ok (.slice ao m c) z := by kernel_rfl

set_option maxHeartbeats 2000000 in
set_option maxRecDepth 100000 in
theorem n_calls {w : World} {ow : List Nat} {b tb mb nm : Nat} {ticks : Int} {tv : Value} {KT : List (Int × Int)} {A B : List Gn} {x n : Int} {P : Pts} {vo : Value} (h : Hole w ow b tb mb nm ticks tv KT A B x n P vo) :
    Calls Tryz.prog 21 #[.pointer (some ⟨b, 0, none⟩), .int .i64 x] w fun e w' => e = .returned (.int .i64 n) ∧ Turn [] w w' := by
  have C := Lib.hid (part_calls h)
  clear h
  unfold gcell at C
  have hfd := field_n n vo
  go_enter Tryz.func21, Tryz.ntmps21
  go_wp2_with fail
  refine C.out.mono ?_
  rintro e w1 ⟨rfl, t1⟩
  have T := Lib.hid t1
  clear t1 C
  go_wp2
  go_ret
  exact ⟨rfl, T.out⟩

theorem n_nil (x : Int) (w : World) : Calls Tryz.prog 21 #[.pointer none, .int .i64 x] w fun e w' => e = .returned (.int .i64 0) ∧ Turn [] w w' := by
  have C := Lib.hid (part_nil x w)
  unfold kz at C
  have hfd := field_n 0 (.slice none 0 0)
  go_enter Tryz.func21, Tryz.ntmps21
  go_wp2_with fail
  refine C.out.mono ?_
  rintro e w1 ⟨rfl, t1⟩
  have T := Lib.hid t1
  clear t1 C
  go_wp2
  go_ret
  exact ⟨rfl, T.out⟩

theorem pcells_one (l : Pts) : ∀ u ∈ pcells l, u.oneCell' = true := by
  intro u hu
  obtain ⟨p, -, hp⟩ := List.mem_flatMap.1 hu
  simp at hp
  rcases hp with rfl | rfl <;> rfl

set_option maxHeartbeats 2000000 in
set_option maxRecDepth 100000 in
/-- Puts: a row of the caller's own. -/
theorem puts_calls {w : World} {ow : List Nat} {b tb mb nm : Nat} {ticks : Int} {tv : Value} {KT : List (Int × Int)} {A B : List Gn} {x n : Int} {P : Pts} {vo : Value} (h : Hole w ow b tb mb nm ticks tv KT A B x n P vo) :
    Calls Tryz.prog 23 #[.pointer (some ⟨b, 0, none⟩), .int .i64 x] w fun e w' => ∃ ao c, e = .returned (.slice ao P.length c) ∧ w'.ownsRow w.heap.size 28 2 (.slice ao P.length c) P.length (pcells P) ∧ Turn [] w w' := by
  obtain ⟨ao, cp, hv⟩ := put_form h.row
  have CL : Hid (∀ w1, Turn [] w w1 → Calls Tryz.prog 46 #[.slice ao P.length cp] w1 fun e w' => ∃ ao' c', e = .returned (.slice ao' P.length c') ∧ w'.ownsRow w1.heap.size 28 2 (.slice ao' P.length c') P.length (pcells P) ∧ Turn [] w1 w') := Lib.hid (fun w1 t1 => by
    have r := (h.turn t1 (by simp)).row
    refine clonePut_calls (pcells_length P) (fun ha => ?_) (fun A ha j v hj => ?_) (pcells_one P) (by have := h.numx.2.2.2; omega)
    · rcases r.2 with ⟨e, h0⟩ | ⟨g, cap, cur, e, -⟩
      · rw [hv] at e
        injection e with e1 e2 e3
        exact ⟨h0, e3⟩
      · rw [hv, ha] at e
        injection e with e1 e2 e3
        cases e1
    · rcases r.2 with ⟨e, h0⟩ | ⟨g, cap, cur, e, -⟩
      · rw [hv, ha] at e
        injection e with e1 e2 e3
        cases e1
      · rw [hv, ha] at e
        injection e with e1 e2 e3
        injection e1 with e1
        subst e1
        exact r.cells (g := g) (by rw [hv, ha]; rfl) j v hj)
  have C := Lib.hid (part_calls h)
  obtain ⟨m, hm⟩ : ∃ m, m = P.length := ⟨_, rfl⟩
  rw [← hm] at hv CL ⊢
  rw [hv] at C
  unfold gcell at C
  have hfd := field_v n ao m cp
  clear h hv hm
  go_enter Tryz.func23, Tryz.ntmps23
  go_wp2_with fail
  refine C.out.mono ?_
  rintro e w1 ⟨rfl, t1⟩
  have T := Lib.hid t1
  clear t1 C
  go_wp2_with fail
  refine (CL.out _ T.out).mono ?_
  rintro e w2 ⟨ao', c', rfl, r2, t2⟩
  have R2 := Lib.hid r2
  have T2 := Lib.hid (T.out.trans t2 (by simp))
  have S := Lib.hid T.out.size
  clear r2 t2 CL
  go_wp2
  go_ret
  exact ⟨_, _, rfl, ownsRow_base R2.out (fun k hk => Nat.le_trans S.out (R2.out.lt _ hk).1), T2.out⟩

end Go.Proofs.YtjmainefmiefcaaGreat


/-
  A Locks lets one have one operation more.
-/
namespace Go.Proofs.YtjmainefmiefcaaGreat
open Go.RowKit

set_option maxHeartbeats 4000000 in
set_option maxRecDepth 100000 in
/-- It has all that it may have. -/
theorem goOn_full {w : World} {ow : List Nat} {b tb mb nm : Nat} {ticks : Int} {tv : Value} {KT : List (Int × Int)} {A B : List Gn} {x n : Int} {P : Pts} {vo : Value} (h : Hole w ow b tb mb nm ticks tv KT A B x n P vo) (hn : n = 10) (ax : Option Addr) (ms cs : Nat) :
    Calls Tryz.prog 39 #[.pointer (some ⟨b, 0, none⟩), .int .i64 x, .slice ax ms cs] w fun e w' => e = .returned (.bool false) ∧ Turn [] w w' := by
  obtain ⟨ao, cp, hv⟩ := put_form h.row
  have H := Lib.hid h.head
  have C := Lib.hid (part_calls h)
  obtain ⟨m, hm⟩ : ∃ m, m = P.length := ⟨_, rfl⟩
  rw [← hm] at hv
  rw [hv, hn] at C
  unfold gcell at C
  clear h hv hm hn
  go_enter Tryz.func39, Tryz.ntmps39
  go_wp2_with fail
  refine C.out.mono ?_
  rintro e w1 ⟨rfl, t1⟩
  have T1 := Lib.hid (t1.trans (Turn.alloc [] w1 (.cells #[.int .i64 10, .slice ao m cp] 73)) (by simp))
  have hq := heap_alloc_new w1 (.cells #[.int .i64 10, .slice ao m cp] 73)
  obtain ⟨c0, c1⟩ := cell2_of hq
  clear t1 C hq
  go_wp2_with fail
  refine (heard_calls (T1.out.heap H.out (by simp))).mono ?_
  rintro e w3 ⟨rfl, rfl⟩
  go_wp2
  go_ret
  exact ⟨rfl, T1.out⟩

theorem goOn_nil (x : Int) (ax : Option Addr) (ms cs : Nat) (w : World) :
    Calls Tryz.prog 39 #[.pointer none, .int .i64 x, .slice ax ms cs] w fun e w' => e = .returned (.bool false) ∧ Turn [] w w' := by
  have C := Lib.hid (part_nil x w)
  unfold kz at C
  go_enter Tryz.func39, Tryz.ntmps39
  go_wp2_with fail
  refine C.out.mono ?_
  rintro e w1 ⟨rfl, t1⟩
  have T1 := Lib.hid (t1.trans (Turn.alloc [] w1 (.cells #[.int .i64 0, .slice none 0 0] 73)) (by simp))
  clear t1 C
  go_wp2_with fail
  refine (heard_nil _).mono ?_
  rintro e w3 ⟨rfl, rfl⟩
  go_wp2
  go_ret
  exact ⟨rfl, T1.out⟩

set_option maxHeartbeats 8000000 in
set_option maxRecDepth 100000 in
/-- It goes on. -/
theorem goOn_calls {w : World} {ow : List Nat} {b tb mb nm : Nat} {ticks : Int} {tv : Value} {KT : List (Int × Int)} {A B : List Gn} {x n : Int} {P : Pts} {vo : Value} (h : Hole w ow b tb mb nm ticks tv KT A B x n P vo) (hn : n ≤ 9) {ax : Option Addr} {ps : Pts} {cs : Nat} (hs : Src 2 w ax ps.length cs (pcells ps)) (hp : P.length + ps.length ≤ 10) (hfit : ∀ p ∈ ps, p.1.size ≤ 9223372036854775807 ∧ p.2.size ≤ 9223372036854775807) (hnm : nm ≤ 99999) {KT' : List (Int × Int)}
    (hT : ∀ w3, L.TimI w3 tb 6 ticks tv KT → Calls Tryz.prog 42 #[.pointer (some ⟨tb, 0, none⟩), .int .i64 x] w3 fun e w4 => ∃ r tv', e = .returned (.bool r) ∧ L.TimI w4 tb 6 ticks tv' KT' ∧ (tv'.ownBlock = tv.ownBlock ∨ ∀ k, tv'.ownBlock = some k → w3.heap.size ≤ k) ∧ Turn (tb :: tv.ownBlock.toList) w3 w4) :
    Calls Tryz.prog 39 #[.pointer (some ⟨b, 0, none⟩), .int .i64 x, .slice ax ps.length cs] w fun e w' => ∃ ow' tv' v', e = .returned (.bool true) ∧ Lk w' ow' b tb mb (nm + 1) ticks tv' KT' (A ++ (⟨x, n + 1, P ++ ps, ticks⟩, v') :: B) ∧ Stp ow ow' w w' := by
  obtain ⟨ao, cp, hv⟩ := put_form h.row
  have H := Lib.hid h
  have HS := Lib.hid hs
  have C := Lib.hid (part_calls h)
  have HTM := Lib.hid hT
  have HF := Lib.hid hfit
  have h0 := h.numx.2.1
  have hw1 : IntKind.i64.wrap (n + 1) = n + 1 := by rw [IntKind.wrap_i64]; omega
  obtain ⟨m, hm⟩ : ∃ m, m = P.length := ⟨_, rfl⟩
  have HM := Lib.hid hm
  have HV := Lib.hid hv
  obtain ⟨ms, hms⟩ : ∃ m, m = ps.length := ⟨_, rfl⟩
  have HMS := Lib.hid hms
  rw [← hm, ← hms] at hp
  rw [← hms] at HS ⊢
  rw [hv, ← hm] at C
  rw [← hm] at HV
  unfold gcell at C
  clear h hv hm hms hs hT hfit
  go_enter Tryz.func39, Tryz.ntmps39
  go_wp2_with fail
  refine C.out.mono ?_
  rintro e w1 ⟨rfl, t1⟩
  have T1 := Lib.hid (t1.trans (Turn.alloc [] w1 (.cells #[.int .i64 n, .slice ao m cp] 73)) (by simp))
  have hq := heap_alloc_new w1 (.cells #[.int .i64 n, .slice ao m cp] 73)
  obtain ⟨c0, c1⟩ := cell2_of hq
  have HQ := Lib.hid hq
  have HLE := Lib.hid t1.size
  clear t1 C hq
  go_wp2_with fail
  refine (heard_calls (T1.out.heap H.out.head (by simp))).mono ?_
  rintro e w3 ⟨rfl, rfl⟩
  go_upto_region 4 with fail
  generalize hx2 : w1.alloc (.cells #[.int .i64 n, .slice ao m cp] 73) = x2 at *
  generalize hqq : w1.heap.size = q at *
  clear hx2 hqq c0 c1
  have TD := Lib.hid (T1.out.trans (Turn.drew [] x2) (by simp))
  have QD := Lib.hid ((Turn.drew [] x2).heap HQ.out (by simp))
  have hS : (fun y : World => y.cell? ⟨b, 1, none⟩ = some (.map (some mb)) ∧ y.cell? ⟨q, 0, none⟩ = some (.int .i64 n) ∧ y.cell? ⟨q, 1, none⟩ = some (.slice ao m cp)) x2.drew := by
    refine ⟨?_, (cell2_of QD.out).1, (cell2_of QD.out).2⟩
    rw [cell_of_row _ _ _ _ _ _ (TD.out.heap H.out.head (by simp))]; rfl
  refine Pq.start [] (fun y => y.cell? ⟨b, 1, none⟩ = some (.map (some mb)) ∧ y.cell? ⟨q, 0, none⟩ = some (.int .i64 n) ∧ y.cell? ⟨q, 1, none⟩ = some (.slice ao m cp)) (fun _ => True) (by kernel_rfl) ?_
  dsimp only at hS
  refine Pq.tk 0 (some 19) (v := ?_) hS ?_ ?_
  rotate_left
  · (intro y hy; obtain ⟨z0, z1, z2⟩ := hy; go_simp; try with_reducible rfl)
  simp only [Act.put, List.setIfInBounds_toArray, List.set_cons_zero, List.set_cons_succ]
  refine Pq.tk 1 (some 20) (v := ?_) hS ?_ ?_
  rotate_left
  · (intro y hy; obtain ⟨z0, z1, z2⟩ := hy; go_simp; try with_reducible rfl)
  simp only [Act.put, List.setIfInBounds_toArray, List.set_cons_zero, List.set_cons_succ]
  refine Pq.tk 2 (some 21) (v := ?_) hS ?_ ?_
  rotate_left
  · (intro y hy; obtain ⟨z0, z1, z2⟩ := hy; go_simp; try with_reducible rfl)
  simp only [Act.put, List.setIfInBounds_toArray, List.set_cons_zero, List.set_cons_succ]
  refine Pq.tk 3 (some 22) (v := ?_) hS ?_ ?_
  rotate_left
  · (intro y hy; obtain ⟨z0, z1, z2⟩ := hy; go_simp; try with_reducible rfl)
  simp only [Act.put, List.setIfInBounds_toArray, List.set_cons_zero, List.set_cons_succ]
  refine Pq.tk 4 (some 23) (v := ?_) hS ?_ ?_
  rotate_left
  · (intro y hy; obtain ⟨z0, z1, z2⟩ := hy; go_simp; try with_reducible rfl)
  simp only [Act.put, List.setIfInBounds_toArray, List.set_cons_zero, List.set_cons_succ]
  refine Pq.tk 5 (some 24) (v := ?_) hS ?_ ?_
  rotate_left
  · (intro y hy; obtain ⟨z0, z1, z2⟩ := hy; go_simp; try with_reducible rfl)
  simp only [Act.put, List.setIfInBounds_toArray, List.set_cons_zero, List.set_cons_succ]
  refine Pq.tk 6 (some 25) (v := ?_) hS ?_ ?_
  rotate_left
  · (intro y hy; obtain ⟨z0, z1, z2⟩ := hy; go_simp; try with_reducible rfl)
  simp only [Act.put, List.setIfInBounds_toArray, List.set_cons_zero, List.set_cons_succ]
  refine Pq.tk 7 (some 26) (v := ?_) hS ?_ ?_
  rotate_left
  · (intro y hy; obtain ⟨z0, z1, z2⟩ := hy; go_simp; try with_reducible rfl)
  simp only [Act.put, List.setIfInBounds_toArray, List.set_cons_zero, List.set_cons_succ]
  refine Pq.tk 8 (some 27) (v := ?_) hS ?_ ?_
  rotate_left
  · (intro y hy; obtain ⟨z0, z1, z2⟩ := hy; go_simp; try with_reducible rfl)
  simp only [Act.put, List.setIfInBounds_toArray, List.set_cons_zero, List.set_cons_succ]
  refine Pq.tk 9 (some 28) (v := ?_) hS ?_ ?_
  rotate_left
  · (intro y hy; obtain ⟨z0, z1, z2⟩ := hy; go_simp; try with_reducible rfl)
  simp only [Act.put, List.setIfInBounds_toArray, List.set_cons_zero, List.set_cons_succ]
  refine Pq.tk 10 (some 29) (v := ?_) hS ?_ ?_
  rotate_left
  · (intro y hy; obtain ⟨z0, z1, z2⟩ := hy; go_simp; try with_reducible rfl)
  simp only [Act.put, List.setIfInBounds_toArray, List.set_cons_zero, List.set_cons_succ]
  obtain ⟨i0, hi, hz0, hz1, hz2⟩ := info_parts Tryz.putrow
  have RW : Hid (x2.drew.ownsRow 0 28 2 (.slice ao m cp) m (pcells P)) := Lib.hid (by have := ownsRow_turn H.out.row TD.out (by simp); rw [HV.out, ← HM.out] at this; exact this)
  refine Pq.one (i := 11) (by kernel_rfl) rfl ?_
  intro K0 hK
  refine step_append_src Tryz.underlying32 hi hz0 hz1 hz2 rfl (by decide) rfl (.tmp 28) (.tmp 29) rfl 0 (.slice ao m cp) m (pcells P) rfl RW.out (Nat.zero_le _) ax ms cs (pcells ps) rfl (HS.out.turn TD.out) (pcells_one ps) (by omega) (by omega) (fun v4 y4 r4 g4 o4 => ?_)
  have TG := Lib.hid (Turn.grown (l := (Value.slice ao m cp).ownBlock.toList) g4 (fun k hk => .inl (by simp [hk])))
  have hnq : q ∉ (Value.slice ao m cp).ownBlock.toList := fun e => by
    obtain ⟨cs, hc⟩ := row_block H.out.row (k := q) (by rw [HV.out]; exact Option.mem_toList.1 e)
    have := lt_of_heap hc
    have := HLE.out
    omega
  have hnb : b ∉ (Value.slice ao m cp).ownBlock.toList := fun e => by
    obtain ⟨cs, hc⟩ := row_block H.out.row (k := b) (by rw [HV.out]; exact Option.mem_toList.1 e)
    exact ty_ne hc H.out.head (by decide) rfl
  have hnm2 : mb ∉ (Value.slice ao m cp).ownBlock.toList := fun e => by
    obtain ⟨cs, hc⟩ := row_block H.out.row (k := mb) (by rw [HV.out]; exact Option.mem_toList.1 e)
    exact H.out.map.ne hc rfl
  have hS4 : (fun y : World => y.cell? ⟨b, 1, none⟩ = some (.map (some mb)) ∧ y.cell? ⟨q, 0, none⟩ = some (.int .i64 n) ∧ y.cell? ⟨q, 1, none⟩ = some (.slice ao m cp)) y4 := by
    obtain ⟨q0, q1, q2⟩ := hS
    exact ⟨TG.out.cell q0 hnb, TG.out.cell q1 hnq, TG.out.cell q2 hnq⟩
  have MP4 := Lib.hid ((H.out.map.turn TD.out (by simp)).turn TG.out hnm2)
  have R4 : Hid (y4.ownsRow 0 28 2 v4 (P ++ ps).length (pcells (P ++ ps))) := Lib.hid (by rw [List.length_append, pcells_append, ← HM.out, ← HMS.out]; exact r4)
  have T4 : Hid (Turn (mb :: vo.ownBlock.toList) w y4) := Lib.hid ((TD.out.mono (by simp)).trans TG.out (fun i hi => .inl (by rw [HV.out]; exact List.mem_cons_of_mem _ hi)))
  have O4 : Hid (v4.ownBlock = vo.ownBlock ∨ ∀ k, v4.ownBlock = some k → w.heap.size ≤ k) := Lib.hid (by
    rcases o4 with e | e
    · exact .inl (by rw [e, HV.out])
    · refine .inr (fun k hk => ?_)
      rw [e] at hk
      cases hk
      exact TD.out.size)
  have HMB : Hid (∀ k, v4.ownBlock = some k → k ≠ mb) := Lib.hid (fun k hk => by
    obtain ⟨cs, hc⟩ := row_block R4.out hk
    exact MP4.out.ne hc)
  refine hK _ _ hS4 (.inr id) ?_
  clear hK K0 r4 g4 o4 hnb hS RW hnm2 hi hz0 hz1 hz2
  obtain ⟨a4, c4, hf4⟩ := put_form R4.out
  obtain ⟨m4, hm4⟩ : ∃ k, k = (P ++ ps).length := ⟨_, rfl⟩
  rw [← hm4] at hf4 R4
  have HM4 := Lib.hid hm4
  subst hf4
  clear hm4
  dsimp only at hS4
  refine Pq.tk 12 (some 31) (v := ?_) hS4 ?_ ?_
  rotate_left
  · (intro y hy; go_simp; try with_reducible rfl)
  refine Pq.one (i := 13) (by kernel_rfl) rfl ?_
  intro K0 hK
  refine mp_update_step rfl (.tmp 22) (.tmp 23) (.tmp 31) _ _ rfl Tryz.underlying67 mb nm kz _ rfl MP4.out (by omega) x (gcell (n + 1) (.slice a4 m4 c4)) rfl (by unfold gcell; rfl) H.out.numx.1 (fun w5 h5 t5 => ?_)
  have hS5 : (fun y : World => y.cell? ⟨b, 1, none⟩ = some (.map (some mb)) ∧ y.cell? ⟨q, 0, none⟩ = some (.int .i64 n) ∧ y.cell? ⟨q, 1, none⟩ = some (.slice ao m cp)) w5 := by
    obtain ⟨q0, q1, q2⟩ := hS4
    have hbm : b ∉ [mb] := fun e => H.out.map.ne H.out.head (List.mem_singleton.1 e)
    have hqm : q ∉ [mb] := fun e => (MP4.out.turn (Turn.refl [] y4) (by simp)).ne (TG.out.heap QD.out hnq) (List.mem_singleton.1 e)
    exact ⟨t5.cell q0 hbm, t5.cell q1 hqm, t5.cell q2 hqm⟩
  have F5 := Lib.hid (H.out.fill (t' := ticks) (T4.out.trans t5 (fun i hi => .inl (by rw [List.mem_singleton.1 hi]; simp))) h5 (by omega) (by rw [← HM4.out]; exact ownsRow_turn R4.out t5 (fun k hk e => HMB.out k hk (List.mem_singleton.1 e))) O4.out ⟨by omega, by omega, by rw [List.length_append, ← HM.out, ← HMS.out]; exact hp⟩ (fun p hp => by
    rcases List.mem_append.1 hp with h1 | h1
    · exact H.out.fitP p h1
    · exact HF.out p h1))
  have P5 : Hid (Stp ow (ow ++ (Value.slice a4 m4 c4).ownBlock.toList) w w5) := Lib.hid (Stp.of (T4.out.trans t5 (fun i hi => .inl (by rw [List.mem_singleton.1 hi]; simp))) (fun k hk => by
    rcases List.mem_cons.1 hk with rfl | hk
    · exact H.out.hmb
    · exact H.out.hvo k (Option.mem_toList.1 hk)) (fun k hk => by
    rcases O4.out with e | e
    · exact .inl (H.out.hvo k (by rw [← e]; exact hk))
    · exact .inr (e k hk)))
  refine hK _ _ hS5 (.inr id) ?_
  clear hK K0 h5 t5 hS4 hS5 MP4 R4 T4 O4 HMB TG QD TD
  refine Pq.done (by kernel_rfl) ?_ _
  go_wp2_with fail
  refine (heard_calls F5.out.head).mono ?_
  rintro e w6 ⟨rfl, rfl⟩
  go_wp2_with fail
  refine (HTM.out _ F5.out.tim).mono ?_
  rintro e w7 ⟨r, tv', rfl, h7, o7, t7⟩
  have F7 := Lib.hid (F5.out.times h7 t7)
  have P7 := Lib.hid (P5.out.trans (Stp.of t7 (fun k hk => by
    rcases List.mem_cons.1 hk with rfl | hk
    · exact F5.out.htb
    · exact F5.out.htv k (Option.mem_toList.1 hk)) (fun k hk => by
    rcases o7 with e | e
    · exact .inl (F5.out.htv k (by rw [← e]; exact hk))
    · exact .inr (e k hk))))
  clear h7 o7 t7
  go_wp2
  go_ret
  exact ⟨_, _, _, rfl, F7.out, P7.out⟩

end Go.Proofs.YtjmainefmiefcaaGreat


/-
  A Locks by who goes on: New, Put, Took, Touch, Drop, Tick, Tids, N, Puts.
-/
namespace Go.Proofs.YtjmainefmiefcaaGreat
open Go.RowKit

def qa (q : Gq) : Int × Int := (q.tid, q.heard)

/-- Who goes on: a list by rising number. -/
def Ls (w : World) (ow : List Nat) (b nm : Nat) (ticks : Int) (Q : List Gq) : Prop :=
  ∃ tb mb tv K, K.map Prod.fst = Q ∧ Lk w ow b tb mb nm ticks tv (Q.map qa) K

theorem Ls.turn {l : List Nat} {w w' : World} {ow : List Nat} {b nm : Nat} {ticks : Int} {Q : List Gq} (h : Ls w ow b nm ticks Q) (t : Turn l w w') (hl : ∀ k ∈ l, k ∉ ow) : Ls w' ow b nm ticks Q := by
  obtain ⟨tb, mb, tv, K, hK, hk⟩ := h
  exact ⟨tb, mb, tv, K, hK, hk.turn t hl⟩

theorem Ls.b_mem {w : World} {ow : List Nat} {b nm : Nat} {ticks : Int} {Q : List Gq} (h : Ls w ow b nm ticks Q) : b ∈ ow := by
  obtain ⟨tb, mb, tv, K, hK, hk⟩ := h
  exact hk.hb

/-- x's place: those ahead, those behind, what it has. -/
def Qat (A B : List Gq) (x n : Int) (P : Pts) (Q : List Gq) : Prop := (Q = A ++ B ∧ n = 0 ∧ P = [] ∧ Q.length ≤ 900) ∨ ∃ hd, Q = A ++ ⟨x, n, P, hd⟩ :: B

theorem Ls.hole {w : World} {ow : List Nat} {b nm : Nat} {ticks : Int} {Q A B : List Gq} {x n : Int} {P : Pts} (h : Ls w ow b nm ticks Q) (hQ : Qat A B x n P Q) (hx : inI64 x) (hA : ∀ q ∈ A, q.tid < x) (hB : ∀ q ∈ B, x < q.tid) :
    ∃ tb mb tv KA KB vo, KA.map Prod.fst = A ∧ KB.map Prod.fst = B ∧ Hole w ow b tb mb nm ticks tv (Q.map qa) KA KB x n P vo := by
  obtain ⟨tb, mb, tv, K, hK, hk⟩ := h
  rcases hQ with ⟨e, rfl, rfl, hl⟩ | ⟨hd, e⟩
  · obtain ⟨KA, KB, rfl, h1, h2⟩ := List.map_eq_append_iff.1 (hK.trans e)
    refine ⟨tb, mb, tv, KA, KB, .slice none 0 0, h1, h2, hk.absent ?_ hx (fun g hg => hA _ (by rw [← h1]; exact List.mem_map_of_mem hg)) (fun g hg => hB _ (by rw [← h2]; exact List.mem_map_of_mem hg))⟩
    rw [← List.length_map (f := Prod.fst), hK]
    exact hl
  · obtain ⟨KA, K2, rfl, h1, h2⟩ := List.map_eq_append_iff.1 (hK.trans e)
    obtain ⟨g, KB, rfl, h3, h4⟩ := List.map_eq_cons_iff.1 h2
    have := hk.present
    rw [h3] at this
    exact ⟨tb, mb, tv, KA, KB, g.2, h1, h4, this⟩

theorem cmpZ_lt {a b : Int} (h : a < b) : cmpZ a b < 0 := by unfold cmpZ; rw [if_pos h]; omega
theorem cmpZ_gt {a b : Int} (h : b < a) : 0 < cmpZ a b := by unfold cmpZ; rw [if_neg (by omega), if_pos h]; omega
theorem cmpZ_eq (a : Int) : cmpZ a a = 0 := by unfold cmpZ; rw [if_neg (by omega), if_neg (by omega)]

theorem lo_q {A R : List Gq} {x : Int} (h : ∀ q ∈ A, q.tid < x) : ∀ i (hi : i < ((A ++ R).map qa).length), i < A.length → cmpZ ((A ++ R).map qa)[i].1 x < 0 := by
  intro i hi hl
  rw [List.getElem_map, List.getElem_append_left hl]
  exact cmpZ_lt (h _ (List.getElem_mem hl))

theorem hi_q {A R : List Gq} {x : Int} (h : ∀ q ∈ R, x ≤ q.tid) : ∀ i (hi : i < ((A ++ R).map qa).length), A.length ≤ i → 0 ≤ cmpZ ((A ++ R).map qa)[i].1 x := by
  intro i hi hl
  rw [List.getElem_map, List.getElem_append_right hl]
  have h1 := h _ (List.getElem_mem (l := R) (n := i - A.length) (by simp at hi; omega))
  rcases Int.lt_or_eq_of_le h1 with h2 | h2
  · exact Int.le_of_lt (cmpZ_gt h2)
  · show 0 ≤ cmpZ (R[i - A.length]'(by simp at hi; omega)).tid x
    rw [← h2, cmpZ_eq]
    omega

theorem not_q {A B : List Gq} {x : Int} (hB : ∀ q ∈ B, x < q.tid) : ¬ (A.length < ((A ++ B).map qa).length ∧ cmpZ (((A ++ B).map qa).getD A.length (0, 0)).1 x = 0) := by
  rintro ⟨h1, h2⟩
  have hl : A.length < (A ++ B).length := by simpa using h1
  have e : ((A ++ B).map qa).getD A.length (0, 0) = qa (B[0]'(by simp at hl; omega)) := by
    simp at hl
    simp [List.getD, hl]
  rw [e] at h2
  have := cmpZ_gt (hB _ (List.getElem_mem (l := B) (n := 0) (by simp at hl; omega)))
  have e2 : (qa (B[0]'(by simp at hl; omega))).1 = (B[0]'(by simp at hl; omega)).tid := rfl
  rw [e2] at h2
  omega

theorem get_q (A B : List Gq) (q : Gq) : ((A ++ q :: B).map qa).getD A.length (0, 0) = qa q := by simp [List.getD]

theorem ge_q {B : List Gq} {x : Int} (hB : ∀ q ∈ B, x < q.tid) : ∀ q ∈ B, x ≤ q.tid := fun q hq => Int.le_of_lt (hB q hq)

theorem ge_q2 {B : List Gq} {q0 : Gq} (hB : ∀ q ∈ B, q0.tid < q.tid) : ∀ q ∈ q0 :: B, q0.tid ≤ q.tid := by
  intro q hq
  rcases List.mem_cons.1 hq with rfl | hq
  · exact Int.le_refl _
  · exact Int.le_of_lt (hB q hq)

/-- The timer hears of x. -/
theorem tim_heard {w : World} {tb : Nat} {ticks : Int} {tv : Value} {Q A B : List Gq} {x n : Int} {P : Pts} (h : L.TimI w tb 6 ticks tv (Q.map qa)) (hQ : Qat A B x n P Q) (hA : ∀ q ∈ A, q.tid < x) (hB : ∀ q ∈ B, x < q.tid) (n' : Int) (P' : Pts) :
    Calls Tryz.prog 42 #[.pointer (some ⟨tb, 0, none⟩), .int .i64 x] w fun e w4 => ∃ r tv', e = .returned (.bool r) ∧ L.TimI w4 tb 6 ticks tv' ((A ++ ⟨x, n', P', ticks⟩ :: B).map qa) ∧ (tv'.ownBlock = tv.ownBlock ∨ ∀ k, tv'.ownBlock = some k → w.heap.size ≤ k) ∧ Turn (tb :: tv.ownBlock.toList) w w4 := by
  rcases hQ with ⟨rfl, rfl, rfl, hl⟩ | ⟨hd, rfl⟩
  · refine (L.heard_new h x (by rw [List.length_map]; omega) (m := A.length) (by simp) (lo_q hA) (hi_q (ge_q hB)) (not_q hB)).mono ?_
    rintro e w4 ⟨v', rfl, h2, ho, t⟩
    refine ⟨true, v', rfl, ?_, ho, t⟩
    have e : insK ((A ++ B).map qa) A.length (x, ticks) = (A ++ ⟨x, n', P', ticks⟩ :: B).map qa := by simp [insK, qa]
    rw [← e]
    exact h2
  · refine (L.heard_is h x (m := A.length) (by simp) (lo_q hA) (hi_q (ge_q2 (q0 := ⟨x, n, P, hd⟩) hB)) (by rw [get_q]; exact cmpZ_eq x)).mono ?_
    rintro e w4 ⟨rfl, h2, t⟩
    refine ⟨false, tv, rfl, ?_, .inl rfl, t.mono (fun i hi => .inl (by simp at hi; simp [hi]))⟩
    rw [get_q] at h2
    have e : ((A ++ ⟨x, n, P, hd⟩ :: B).map qa).set A.length ((qa ⟨x, n, P, hd⟩).1, ticks) = (A ++ ⟨x, n', P', ticks⟩ :: B).map qa := by simp [qa]
    rw [← e]
    exact h2

/-- One operation more. -/
theorem on13_calls {w : World} {ow : List Nat} {b nm : Nat} {ticks : Int} {Q A B : List Gq} {x n : Int} {P : Pts} (h : Ls w ow b nm ticks Q) (hQ : Qat A B x n P Q) (hx : inI64 x) (hA : ∀ q ∈ A, q.tid < x) (hB : ∀ q ∈ B, x < q.tid)
    (hn : n ≤ 9) {ax : Option Addr} {ps : Pts} {cs : Nat} (hs : Src 2 w ax ps.length cs (pcells ps)) (hp : P.length + ps.length ≤ 10) (hfit : ∀ p ∈ ps, p.1.size ≤ 9223372036854775807 ∧ p.2.size ≤ 9223372036854775807) (hnm : nm ≤ 99999) :
    Calls Tryz.prog 39 #[.pointer (some ⟨b, 0, none⟩), .int .i64 x, .slice ax ps.length cs] w fun e w' => ∃ ow', e = .returned (.bool true) ∧ Ls w' ow' b (nm + 1) ticks (A ++ ⟨x, n + 1, P ++ ps, ticks⟩ :: B) ∧ Stp ow ow' w w' := by
  obtain ⟨tb, mb, tv, KA, KB, vo, h1, h2, H⟩ := h.hole hQ hx hA hB
  refine (goOn_calls H hn hs hp hfit hnm (fun w3 h3 => tim_heard h3 hQ hA hB (n + 1) (P ++ ps))).mono ?_
  rintro e w' ⟨ow', tv', v', rfl, hk, st⟩
  exact ⟨ow', rfl, ⟨tb, mb, tv', _, by rw [List.map_append, List.map_cons, h1, h2], hk⟩, st⟩

set_option maxHeartbeats 2000000 in
set_option maxRecDepth 100000 in
/-- Took: one operation more. -/
theorem took_on {w : World} {ow : List Nat} {b nm : Nat} {ticks : Int} {Q A B : List Gq} {x n : Int} {P : Pts} (h : Ls w ow b nm ticks Q) (hQ : Qat A B x n P Q) (hx : inI64 x) (hA : ∀ q ∈ A, q.tid < x) (hB : ∀ q ∈ B, x < q.tid) (hn : n ≤ 9) (hp : P.length ≤ 10) (hnm : nm ≤ 99999) :
    Calls Tryz.prog 16 #[.pointer (some ⟨b, 0, none⟩), .int .i64 x] w fun e w' => ∃ ow', e = .returned (.bool true) ∧ Ls w' ow' b (nm + 1) ticks (A ++ ⟨x, n + 1, P, ticks⟩ :: B) ∧ Stp ow ow' w w' := by
  have C := on13_calls h hQ hx hA hB hn (ax := none) (ps := []) (cs := 0) (.inl ⟨rfl, rfl, rfl, rfl⟩) (by simpa using hp) (by simp) hnm
  rw [List.append_nil] at C
  have C := Lib.hid C
  clear h hQ hA hB
  go_enter Tryz.func16, Tryz.ntmps16
  go_wp2_with fail
  refine C.out.mono ?_
  rintro e w1 ⟨ow', rfl, h1, s1⟩
  have H1 := Lib.hid h1
  have S1 := Lib.hid s1
  clear h1 s1 C
  go_wp2
  go_ret
  exact ⟨_, rfl, H1.out, S1.out⟩

theorem src_put {w : World} {q : Nat} {u v : ByteArray} (h : w.heap[q]? = some (.cells #[.string u, .string v] 28)) : Src 2 w (some ⟨q, 0, none⟩) 1 1 (pcells [(u, v)]) :=
  .inr ⟨_, rfl, rfl, fun j z hj => by
    match j, hj with
    | 0, hj => simp [pcells] at hj; rw [← hj, Addr.add_lit]; exact (cell2_of h).1
    | 1, hj => simp [pcells] at hj; rw [← hj, Addr.add_lit]; exact (cell2_of h).2
    | j + 2, hj => simp [pcells] at hj⟩

set_option maxHeartbeats 2000000 in
set_option maxRecDepth 100000 in
/-- Put: one operation more. -/
theorem put_on {w : World} {ow : List Nat} {b nm : Nat} {ticks : Int} {Q A B : List Gq} {x n : Int} {P : Pts} (h : Ls w ow b nm ticks Q) (hQ : Qat A B x n P Q) (hx : inI64 x) (hA : ∀ q ∈ A, q.tid < x) (hB : ∀ q ∈ B, x < q.tid) (hn : n ≤ 9) (hp : P.length ≤ 9) (hnm : nm ≤ 99999)
    (u v : ByteArray) (hu : u.size ≤ 9223372036854775807) (hv : v.size ≤ 9223372036854775807) :
    Calls Tryz.prog 15 #[.pointer (some ⟨b, 0, none⟩), .int .i64 x, .agg #[.string u, .string v]] w fun e w' => ∃ ow', e = .returned (.bool true) ∧ Ls w' ow' b (nm + 1) ticks (A ++ ⟨x, n + 1, P ++ [(u, v)], ticks⟩ :: B) ∧ Stp ow ow' w w' := by
  have hq0 := heap_alloc_new w (.cells #[.string u, .string v] 28)
  obtain ⟨c0, c1⟩ := cell2_of hq0
  have T := Lib.hid ((Turn.alloc [] w (.cells #[.string u, .string v] 28)).trans (Turn.alloc [] (w.alloc (.cells #[.string u, .string v] 28)) (.cells #[.string u, .string v] 28)) (by simp))
  have hq1 := heap_alloc_new (w.alloc (.cells #[.string u, .string v] 28)) (.cells #[.string u, .string v] 28)
  rw [show (w.alloc (.cells #[.string u, .string v] 28)).heap.size = w.heap.size + 1 by simp] at hq1
  have C := Lib.hid (on13_calls (h.turn T.out (by simp)) hQ hx hA hB hn (ps := [(u, v)]) (src_put hq1) (show P.length + 1 ≤ 10 by omega) (by simp; omega) hnm)
  clear h hQ hA hB hq0 hq1
  go_enter Tryz.func15, Tryz.ntmps15
  go_wp2_with fail
  refine C.out.mono ?_
  rintro e w1 ⟨ow', rfl, h1, s1⟩
  have H1 := Lib.hid h1
  have S1 := Lib.hid ((Stp.quiet (ow := ow) T.out).trans s1)
  clear h1 s1 C
  go_wp2
  go_ret
  exact ⟨_, rfl, H1.out, S1.out⟩

end Go.Proofs.YtjmainefmiefcaaGreat


/-
  A Locks by who goes on: New, Touch, Drop, Tick, Tids, N, Puts; a nil one.
-/
namespace Go.Proofs.YtjmainefmiefcaaGreat
open Go.RowKit

set_option maxHeartbeats 2000000 in
set_option maxRecDepth 100000 in
theorem lnew_calls (w : World) : Calls Tryz.prog 13 #[] w fun e w' => ∃ b ow, e = .returned (.pointer (some ⟨b, 0, none⟩)) ∧ Ls w' ow b 0 0 [] ∧ (∀ k ∈ ow, w.heap.size ≤ k) ∧ Turn [] w w' := by
  have hmm := @run_makeMap Tryz.prog
  go_enter Tryz.func13, Tryz.ntmps13
  go_wp2_with fail
  refine (L.new_calls 6 (by unfold inI64; omega) w).mono ?_
  rintro e w1 ⟨rfl, h1, t1⟩
  have H1 := Lib.hid h1
  have T1 := Lib.hid t1
  clear h1 t1
  go_wp2
  go_ret
  have tm := Turn.alloc [] w1 (.map #[] 0)
  have tb := Turn.alloc [] (w1.alloc (.map #[] 0)) (.cells #[.pointer (some ⟨w.heap.size, 0, none⟩), .map (some w1.heap.size)] 69)
  have hb := heap_alloc_new (w1.alloc (.map #[] 0)) (.cells #[.pointer (some ⟨w.heap.size, 0, none⟩), .map (some w1.heap.size)] 69)
  rw [show (w1.alloc (.map #[] 0)).heap.size = w1.heap.size + 1 by simp] at hb
  refine ⟨w1.heap.size + 1, [w1.heap.size + 1, w.heap.size, w1.heap.size], rfl, ⟨w.heap.size, w1.heap.size, .slice none 0 0, [], rfl, ⟨hb, (H1.out.turn tm (by simp) (by simp)).turn tb (by simp) (by simp), (Mp.made w1 kz).turn tb (by simp), by simp, .nil, .nil, by simp, by simp, by simp, (by intro k hk; cases hk), by simp, by simp, by simp, by simp⟩⟩, ?_, (T1.out.trans tm (by simp)).trans tb (by simp)⟩
  have := T1.out.size
  intro k hk
  simp at hk
  omega

theorem Ls.n_calls {w : World} {ow : List Nat} {b nm : Nat} {ticks : Int} {Q A B : List Gq} {x n : Int} {P : Pts} (h : Ls w ow b nm ticks Q) (hQ : Qat A B x n P Q) (hx : inI64 x) (hA : ∀ q ∈ A, q.tid < x) (hB : ∀ q ∈ B, x < q.tid) :
    Calls Tryz.prog 21 #[.pointer (some ⟨b, 0, none⟩), .int .i64 x] w fun e w' => e = .returned (.int .i64 n) ∧ Turn [] w w' := by
  obtain ⟨tb, mb, tv, KA, KB, vo, h1, h2, H⟩ := h.hole hQ hx hA hB
  exact Go.Proofs.YtjmainefmiefcaaGreat.n_calls H

theorem Ls.puts_calls {w : World} {ow : List Nat} {b nm : Nat} {ticks : Int} {Q A B : List Gq} {x n : Int} {P : Pts} (h : Ls w ow b nm ticks Q) (hQ : Qat A B x n P Q) (hx : inI64 x) (hA : ∀ q ∈ A, q.tid < x) (hB : ∀ q ∈ B, x < q.tid) :
    Calls Tryz.prog 23 #[.pointer (some ⟨b, 0, none⟩), .int .i64 x] w fun e w' => ∃ ao c, e = .returned (.slice ao P.length c) ∧ w'.ownsRow w.heap.size 28 2 (.slice ao P.length c) P.length (pcells P) ∧ Turn [] w w' := by
  obtain ⟨tb, mb, tv, KA, KB, vo, h1, h2, H⟩ := h.hole hQ hx hA hB
  exact Go.Proofs.YtjmainefmiefcaaGreat.puts_calls H

theorem on_full {w : World} {ow : List Nat} {b nm : Nat} {ticks : Int} {Q A B : List Gq} {x : Int} {P : Pts} (h : Ls w ow b nm ticks Q) (hQ : Qat A B x 10 P Q) (hx : inI64 x) (hA : ∀ q ∈ A, q.tid < x) (hB : ∀ q ∈ B, x < q.tid) (ax : Option Addr) (ms cs : Nat) :
    Calls Tryz.prog 39 #[.pointer (some ⟨b, 0, none⟩), .int .i64 x, .slice ax ms cs] w fun e w' => e = .returned (.bool false) ∧ Turn [] w w' := by
  obtain ⟨tb, mb, tv, KA, KB, vo, h1, h2, H⟩ := h.hole hQ hx hA hB
  exact goOn_full H rfl ax ms cs

set_option maxHeartbeats 2000000 in
set_option maxRecDepth 100000 in
theorem took_of {w : World} {x : Int} {l : Value} {r : Bool} (hc : Calls Tryz.prog 39 #[l, .int .i64 x, .slice none 0 0] w fun e w' => e = .returned (.bool r) ∧ Turn [] w w') :
    Calls Tryz.prog 16 #[l, .int .i64 x] w fun e w' => e = .returned (.bool r) ∧ Turn [] w w' := by
  have C := Lib.hid hc
  clear hc
  go_enter Tryz.func16, Tryz.ntmps16
  go_wp2_with fail
  refine C.out.mono ?_
  rintro e w1 ⟨rfl, t1⟩
  have T := Lib.hid t1
  clear t1 C
  go_wp2
  go_ret
  exact ⟨rfl, T.out⟩

set_option maxHeartbeats 2000000 in
set_option maxRecDepth 100000 in
theorem put_of {w : World} {x : Int} {l : Value} {r : Bool} {u v : ByteArray} (hc : ∀ w1 ax, Turn [] w w1 → Calls Tryz.prog 39 #[l, .int .i64 x, .slice ax 1 1] w1 fun e w' => e = .returned (.bool r) ∧ Turn [] w1 w') :
    Calls Tryz.prog 15 #[l, .int .i64 x, .agg #[.string u, .string v]] w fun e w' => e = .returned (.bool r) ∧ Turn [] w w' := by
  have hq0 := heap_alloc_new w (.cells #[.string u, .string v] 28)
  obtain ⟨c0, c1⟩ := cell2_of hq0
  have T := Lib.hid ((Turn.alloc [] w (.cells #[.string u, .string v] 28)).trans (Turn.alloc [] (w.alloc (.cells #[.string u, .string v] 28)) (.cells #[.string u, .string v] 28)) (by simp))
  have C := Lib.hid hc
  clear hc hq0
  go_enter Tryz.func15, Tryz.ntmps15
  go_wp2_with fail
  refine (C.out _ _ T.out).mono ?_
  rintro e w1 ⟨rfl, t1⟩
  have T1 := Lib.hid (T.out.trans t1 (by simp))
  clear t1 C
  go_wp2
  go_ret
  exact ⟨rfl, T1.out⟩

/-- The eleventh is refused. -/
theorem took_full {w : World} {ow : List Nat} {b nm : Nat} {ticks : Int} {Q A B : List Gq} {x : Int} {P : Pts} (h : Ls w ow b nm ticks Q) (hQ : Qat A B x 10 P Q) (hx : inI64 x) (hA : ∀ q ∈ A, q.tid < x) (hB : ∀ q ∈ B, x < q.tid) :
    Calls Tryz.prog 16 #[.pointer (some ⟨b, 0, none⟩), .int .i64 x] w fun e w' => e = .returned (.bool false) ∧ Turn [] w w' := took_of (on_full h hQ hx hA hB _ _ _)

theorem put_full {w : World} {ow : List Nat} {b nm : Nat} {ticks : Int} {Q A B : List Gq} {x : Int} {P : Pts} (h : Ls w ow b nm ticks Q) (hQ : Qat A B x 10 P Q) (hx : inI64 x) (hA : ∀ q ∈ A, q.tid < x) (hB : ∀ q ∈ B, x < q.tid) (u v : ByteArray) :
    Calls Tryz.prog 15 #[.pointer (some ⟨b, 0, none⟩), .int .i64 x, .agg #[.string u, .string v]] w fun e w' => e = .returned (.bool false) ∧ Turn [] w w' := put_of (fun _ _ t => on_full (h.turn t (by simp)) hQ hx hA hB _ _ _)

theorem took_nil (x : Int) (w : World) : Calls Tryz.prog 16 #[.pointer none, .int .i64 x] w fun e w' => e = .returned (.bool false) ∧ Turn [] w w' := took_of (goOn_nil _ _ _ _ _)

theorem put_nil (x : Int) (u v : ByteArray) (w : World) : Calls Tryz.prog 15 #[.pointer none, .int .i64 x, .agg #[.string u, .string v]] w fun e w' => e = .returned (.bool false) ∧ Turn [] w w' := put_of (fun _ _ _ => goOn_nil _ _ _ _ _)

/-- Is x there? -/
theorem tim_has {w : World} {tb : Nat} {ticks : Int} {tv : Value} {A B : List Gq} {x : Int} (h : L.TimI w tb 6 ticks tv ((A ++ B).map qa)) (hA : ∀ q ∈ A, q.tid < x) (hB : ∀ q ∈ B, x < q.tid) :
    Calls Tryz.prog 41 #[.pointer (some ⟨tb, 0, none⟩), .int .i64 x] w fun e w' => e = .returned (.bool false) ∧ Turn [] w w' := by
  have C := L.has_calls h x (m := A.length) (by simp) (lo_q hA) (hi_q (ge_q hB))
  have e : (decide (A.length < ((A ++ B).map qa).length) && (cmpZ (((A ++ B).map qa).getD A.length (0, 0)).1 x == 0)) = false := by
    have := not_q (A := A) hB
    rw [Bool.and_eq_false_iff]
    by_cases h1 : A.length < ((A ++ B).map qa).length
    · exact .inr (by simpa using fun h2 => this ⟨h1, h2⟩)
    · exact .inl (decide_eq_false h1)
  rw [e] at C
  exact C

theorem tim_has_is {w : World} {tb : Nat} {ticks : Int} {tv : Value} {A B : List Gq} {q : Gq} (h : L.TimI w tb 6 ticks tv ((A ++ q :: B).map qa)) (hA : ∀ a ∈ A, a.tid < q.tid) (hB : ∀ c ∈ B, q.tid < c.tid) :
    Calls Tryz.prog 41 #[.pointer (some ⟨tb, 0, none⟩), .int .i64 q.tid] w fun e w' => e = .returned (.bool true) ∧ Turn [] w w' := by
  have C := L.has_calls h q.tid (m := A.length) (by simp) (lo_q hA) (hi_q (ge_q2 hB))
  rw [get_q] at C
  rw [show (decide (A.length < ((A ++ q :: B).map qa).length) && (cmpZ (qa q).1 q.tid == 0)) = true by rw [show cmpZ (qa q).1 q.tid = 0 from cmpZ_eq _]; simp] at C
  exact C

set_option maxHeartbeats 2000000 in
set_option maxRecDepth 100000 in
/-- Touch of nobody. -/
theorem touch_none {w : World} {ow : List Nat} {b nm : Nat} {ticks : Int} {A B : List Gq} {x : Int} (h : Ls w ow b nm ticks (A ++ B)) (hA : ∀ q ∈ A, q.tid < x) (hB : ∀ q ∈ B, x < q.tid) :
    Calls Tryz.prog 17 #[.pointer (some ⟨b, 0, none⟩), .int .i64 x] w fun e w' => e = .returned (.bool false) ∧ Turn [] w w' := by
  obtain ⟨tb, mb, tv, K, hK, hk⟩ := h
  have C := Lib.hid (tim_has hk.tim hA hB)
  have H := Lib.hid hk.head
  clear hk hK hA hB
  go_enter Tryz.func17, Tryz.ntmps17
  go_wp2_with fail
  refine (heard_calls H.out).mono ?_
  rintro e w1 ⟨rfl, rfl⟩
  go_wp2_with fail
  refine C.out.mono ?_
  rintro e w1 ⟨rfl, t1⟩
  have T := Lib.hid t1
  clear t1 C
  go_wp2
  go_ret
  exact ⟨rfl, T.out⟩

set_option maxHeartbeats 2000000 in
set_option maxRecDepth 100000 in
/-- Touch of one. -/
theorem touch_is {w : World} {ow : List Nat} {b nm : Nat} {ticks : Int} {A B : List Gq} {q : Gq} (h : Ls w ow b nm ticks (A ++ q :: B)) (hA : ∀ a ∈ A, a.tid < q.tid) (hB : ∀ c ∈ B, q.tid < c.tid) :
    Calls Tryz.prog 17 #[.pointer (some ⟨b, 0, none⟩), .int .i64 q.tid] w fun e w' => ∃ ow', e = .returned (.bool true) ∧ Ls w' ow' b nm ticks (A ++ ⟨q.tid, q.n, q.puts, ticks⟩ :: B) ∧ Stp ow ow' w w' := by
  obtain ⟨tb, mb, tv, K, hK, hk⟩ := h
  obtain ⟨KA, K2, rfl, h1, h2⟩ := List.map_eq_append_iff.1 hK
  obtain ⟨g, KB, rfl, h3, h4⟩ := List.map_eq_cons_iff.1 h2
  have C := Lib.hid (tim_has_is hk.tim hA hB)
  have C2 := Lib.hid (fun w3 (t : Turn [] w w3) => tim_heard (Q := A ++ q :: B) (hk.turn t (by simp)).tim (.inr ⟨q.heard, rfl⟩) hA hB q.n q.puts)
  have F := Lib.hid (hk.present.fill (t' := ticks) (n' := g.1.n) (P' := g.1.puts) (v' := g.2) (Turn.refl _ w) (by
    have := hk.present.map
    have e : (fun y => if y = g.1.tid then gcell g.1.n g.2 else if y = g.1.tid then gcell g.1.n g.2 else partOf (KA ++ KB) y) = (fun y => if y = g.1.tid then gcell g.1.n g.2 else partOf (KA ++ KB) y) := by
      funext y
      split <;> rfl
    rw [e]
    exact this) hk.few.1 hk.present.row (.inl rfl) hk.present.numx.2 hk.present.fitP)
  have S := Lib.hid (Stp.of (ow := ow) (v' := g.2) (Turn.refl [] w) (by simp) (fun k hk2 => .inl (hk.present.hvo k hk2)))
  rw [h3] at F
  have H := Lib.hid hk.head
  have HA := Lib.hid h1
  have HB := Lib.hid h4
  clear hk hK h1 h2 h4 hA hB
  go_enter Tryz.func17, Tryz.ntmps17
  go_wp2_with fail
  refine (heard_calls H.out).mono ?_
  rintro e w1 ⟨rfl, rfl⟩
  go_wp2_with fail
  refine C.out.mono ?_
  rintro e w1 ⟨rfl, t1⟩
  have T := Lib.hid t1
  clear t1 C
  go_wp2_with fail
  refine (heard_calls (T.out.heap H.out (by simp))).mono ?_
  rintro e w2 ⟨rfl, rfl⟩
  go_wp2_with fail
  refine (C2.out _ T.out).mono ?_
  rintro e w4 ⟨r, tv', rfl, h5, o5, t5⟩
  have F1 := Lib.hid (F.out.turn T.out (by simp))
  have F2 := Lib.hid (F1.out.times h5 t5)
  have S2 := Lib.hid ((S.out.trans (Stp.quiet T.out)).trans (Stp.of t5 (fun k hk => by
    rcases List.mem_cons.1 hk with rfl | hk
    · exact F1.out.htb
    · exact F1.out.htv k (Option.mem_toList.1 hk)) (fun k hk => by
    rcases o5 with e | e
    · exact .inl (F1.out.htv k (by rw [← e]; exact hk))
    · exact .inr (e k hk))))
  clear h5 o5 t5
  go_wp2
  go_ret
  exact ⟨_, rfl, ⟨tb, mb, tv', _, by rw [List.map_append, List.map_cons, HA.out, HB.out], F2.out⟩, S2.out⟩

/-- x is struck out. -/
theorem Hole.cut {w w' : World} {ow : List Nat} {b tb mb nm : Nat} {ticks : Int} {tv : Value} {KT : List (Int × Int)} {A B : List Gn} {x n : Int} {P : Pts} {vo : Value} (h : Hole w ow b tb mb nm ticks tv KT A B x n P vo)
    (t : Turn [mb] w w') (hm : Mp w' mb nm kz (fun y => if y = x then kz else if y = x then gcell n vo else partOf (A ++ B) y)) : Lk w' ow b tb mb nm ticks tv KT (A ++ B) := by
  have nb : ∀ {k : Nat} {cs : Array Value} {ty : TypeId}, w.heap[k]? = some (.cells cs ty) → k ∉ [mb] := fun hk e => h.map.ne hk (List.mem_singleton.1 e)
  have e : (fun y => if y = x then kz else if y = x then gcell n vo else partOf (A ++ B) y) = partOf (A ++ B) := by
    funext y
    split
    · next e =>
      refine (partOf_none (fun a ha => ?_)).symm
      rcases List.mem_append.1 ha with h1 | h1
      · have := h.risA a h1; omega
      · have := h.risB a h1; omega
    · rfl
  refine ⟨t.heap h.head (nb h.head), h.tim.turn t (nb h.tim.head) (fun k hk => ?_), by rw [← e]; exact hm, fun g hg => ownsRow_turn (h.rows g hg) t (fun k hk => ?_), h.sep, h.ris, h.hb, h.htb, h.hmb, h.htv, h.hrow, h.nums, h.fit, ⟨h.few.1, by have := h.few.2; omega⟩⟩
  · obtain ⟨cs, hc⟩ := row_block h.tim.row hk
    exact nb hc
  · obtain ⟨cs, hc⟩ := row_block (h.rows g hg) hk
    exact nb hc

set_option maxHeartbeats 2000000 in
set_option maxRecDepth 100000 in
/-- Drop of nobody. -/
theorem drop_none {w : World} {ow : List Nat} {b nm : Nat} {ticks : Int} {A B : List Gq} {x : Int} (h : Ls w ow b nm ticks (A ++ B)) (hA : ∀ q ∈ A, q.tid < x) (hB : ∀ q ∈ B, x < q.tid) :
    Calls Tryz.prog 18 #[.pointer (some ⟨b, 0, none⟩), .int .i64 x] w fun e w' => e = .returned (.bool false) ∧ Turn [] w w' := by
  obtain ⟨tb, mb, tv, K, hK, hk⟩ := h
  have C := Lib.hid (L.gone_none hk.tim x (m := A.length) (by simp) (lo_q hA) (hi_q (ge_q hB)) (not_q hB))
  have H := Lib.hid hk.head
  clear hk hK hA hB
  go_enter Tryz.func18, Tryz.ntmps18
  go_wp2_with fail
  refine (heard_calls H.out).mono ?_
  rintro e w1 ⟨rfl, rfl⟩
  go_wp2_with fail
  refine C.out.mono ?_
  rintro e w1 ⟨rfl, t1⟩
  have T := Lib.hid t1
  clear t1 C
  go_wp2
  go_ret
  exact ⟨rfl, T.out⟩

theorem drop_mid {α : Type} (y : α) (Y : List α) : ∀ X : List α, (X ++ y :: Y).drop (X.length + 1) = Y
  | [] => rfl
  | _ :: X => drop_mid y Y X

theorem del_q (A B : List Gq) (q : Gq) : delK ((A ++ q :: B).map qa) A.length = (A ++ B).map qa := by
  have h := drop_mid (qa q) (B.map qa) (A.map qa)
  rw [List.length_map] at h
  unfold delK
  rw [List.map_append, List.map_cons, h, List.take_left' (by simp), List.map_append]

set_option maxHeartbeats 4000000 in
set_option maxRecDepth 100000 in
/-- Drop of one. -/
theorem drop_is {w : World} {ow : List Nat} {b nm : Nat} {ticks : Int} {A B : List Gq} {q : Gq} (h : Ls w ow b nm ticks (A ++ q :: B)) (hA : ∀ a ∈ A, a.tid < q.tid) (hB : ∀ c ∈ B, q.tid < c.tid) :
    Calls Tryz.prog 18 #[.pointer (some ⟨b, 0, none⟩), .int .i64 q.tid] w fun e w' => ∃ ow', e = .returned (.bool true) ∧ Ls w' ow' b nm ticks (A ++ B) ∧ Stp ow ow' w w' := by
  obtain ⟨tb, mb, tv, K, hK, hk⟩ := h
  obtain ⟨KA, K2, rfl, h1, h2⟩ := List.map_eq_append_iff.1 hK
  obtain ⟨g, KB, rfl, h3, h4⟩ := List.map_eq_cons_iff.1 h2
  have hC := L.gone_is hk.tim q.tid (m := A.length) (by simp) (lo_q hA) (hi_q (ge_q2 hB)) (by rw [get_q]; exact cmpZ_eq _)
  rw [del_q] at hC
  have C := Lib.hid hC
  have HK := Lib.hid hk
  have hx := hk.present.numx.1
  rw [h3] at hx
  have HA := Lib.hid h1
  have HB := Lib.hid h4
  have HQ := Lib.hid h3
  clear hk hK h1 h2 h4 hA hB hC
  go_enter Tryz.func18, Tryz.ntmps18
  go_wp2_with fail
  refine (heard_calls HK.out.head).mono ?_
  rintro e w1 ⟨rfl, rfl⟩
  go_wp2_with fail
  refine C.out.mono ?_
  rintro e w2 ⟨tv', rfl, h5, o5, t5⟩
  have F := Lib.hid (HK.out.times h5 t5)
  have S := Lib.hid (Stp.of (ow := ow) (v' := tv') t5 (fun k hk => by
    rcases List.mem_cons.1 hk with rfl | hk
    · exact HK.out.htb
    · exact HK.out.htv k (Option.mem_toList.1 hk)) (fun k hk => .inl (HK.out.htv k (by rw [← o5]; exact hk))))
  have c1 : w2.cell? ⟨b, 1, none⟩ = some (.map (some mb)) := by rw [cell_of_row _ _ _ _ _ _ F.out.head]; rfl
  have PM := Lib.hid F.out.present.map
  rw [HQ.out] at PM
  clear h5 o5 t5 C
  go_wp2_with (at_delete; refine mp_delete rfl (.tmp 14) (.tmp 15) 67 _ rfl Tryz.underlying67 mb nm kz _ rfl PM.out q.tid rfl hx ?_; intro w3 h3 t3; have M3 := Lib.hid h3; have T3 := Lib.hid t3; clear h3 t3)
  have F3 := Lib.hid (F.out.present.cut T3.out (by rw [HQ.out]; exact M3.out))
  go_ret
  exact ⟨_, rfl, ⟨tb, mb, tv', _, by rw [List.map_append, HA.out, HB.out], F3.out⟩, S.out.trans ⟨fun k hk => .inl hk, fun k hk => hk, T3.out.mono (fun i hi => .inl (by rw [List.mem_singleton.1 hi]; exact F.out.hmb))⟩⟩

set_option maxHeartbeats 2000000 in
set_option maxRecDepth 100000 in
/-- Tick: who was silent for six ticks or more, in a row of its own. -/
theorem ltick_calls {w : World} {ow : List Nat} {b nm : Nat} {ticks : Int} {Q : List Gq} (h : Ls w ow b nm ticks Q) (hti : ticks ≤ 999999) :
    Calls Tryz.prog 20 #[.pointer (some ⟨b, 0, none⟩)] w fun e w' => ∃ ow' sv, e = .returned sv ∧ w'.ownsRow 0 2 1 sv (L.silK 6 (ticks + 1) (Q.map qa)).length (L.silK 6 (ticks + 1) (Q.map qa)) ∧ (∀ k, sv.ownBlock = some k → w.heap.size ≤ k) ∧ Ls w' ow' b nm (ticks + 1) Q ∧ Stp ow ow' w w' := by
  obtain ⟨tb, mb, tv, K, hK, hk⟩ := h
  have C := Lib.hid (L.tick_calls hk.tim hti)
  have HK := Lib.hid hk
  clear hk
  go_enter Tryz.func20, Tryz.ntmps20
  go_wp2_with fail
  refine (heard_calls HK.out.head).mono ?_
  rintro e w1 ⟨rfl, rfl⟩
  go_wp2_with fail
  refine C.out.mono ?_
  rintro e w2 ⟨sv, rfl, hr, ho, h5, t5⟩
  have R := Lib.hid hr
  have O := Lib.hid ho
  have F := Lib.hid (HK.out.times h5 (t5.mono (fun i hi => .inl (by simp at hi; simp [hi]))))
  have S := Lib.hid (Stp.of (ow := ow) (v' := tv) t5 (fun k hk => by rw [List.mem_singleton.1 hk]; exact HK.out.htb) (fun k hk => .inl (HK.out.htv k hk)))
  obtain ⟨ao, c, hs⟩ := owns_slice hr
  have HS := Lib.hid hs
  clear h5 t5 C hr ho hs
  rw [HS.out]
  go_wp2
  go_ret
  exact ⟨_, _, rfl, by rw [← HS.out]; exact R.out, by rw [← HS.out]; exact O.out, ⟨tb, mb, tv, _, hK, F.out⟩, S.out⟩

set_option maxHeartbeats 2000000 in
set_option maxRecDepth 100000 in
/-- Tids: those who go on, in a row of its own. -/
theorem tids_calls {w : World} {ow : List Nat} {b nm : Nat} {ticks : Int} {Q : List Gq} (h : Ls w ow b nm ticks Q) :
    Calls Tryz.prog 24 #[.pointer (some ⟨b, 0, none⟩)] w fun e w' => ∃ g, e = .returned (.slice (some ⟨g, 0, none⟩) Q.length Q.length) ∧ w'.ownsRow w.heap.size 2 1 (.slice (some ⟨g, 0, none⟩) Q.length Q.length) Q.length (Q.map fun q => Value.int .i64 q.tid) ∧ Turn [] w w' := by
  obtain ⟨tb, mb, tv, K, hK, hk⟩ := h
  have hC := L.all_calls hk.tim
  rw [List.length_map, List.map_map] at hC
  have C := Lib.hid hC
  have H := Lib.hid hk.head
  clear hk hC
  go_enter Tryz.func24, Tryz.ntmps24
  go_wp2_with fail
  refine (heard_calls H.out).mono ?_
  rintro e w1 ⟨rfl, rfl⟩
  go_wp2_with fail
  refine C.out.mono ?_
  rintro e w2 ⟨rfl, hr, hb⟩
  have R := Lib.hid hr
  have T := Lib.hid (Turn.of_below hb [])
  clear hr hb C
  go_wp2
  go_ret
  exact ⟨_, rfl, R.out, T.out⟩

end Go.Proofs.YtjmainefmiefcaaGreat


/-
  A Locks: All; a nil one.
-/
namespace Go.Proofs.YtjmainefmiefcaaGreat
open Go.RowKit

theorem split_q {Q : List Gq} {k : Nat} {q : Gq} (h : Q[k]? = some q) : Q = Q.take k ++ q :: Q.drop (k + 1) := by
  obtain ⟨hl, rfl⟩ := List.getElem?_eq_some_iff.1 h
  rw [← List.drop_eq_getElem_cons hl, List.take_append_drop]

/-- Rising. -/
def Rs (Q : List Gq) : Prop := Q.Pairwise fun p q => p.tid < q.tid

theorem Ls.ris {w : World} {ow : List Nat} {b nm : Nat} {ticks : Int} {Q : List Gq} (h : Ls w ow b nm ticks Q) : Rs Q := by
  obtain ⟨tb, mb, tv, K, rfl, hk⟩ := h
  exact List.pairwise_map.2 hk.ris

theorem Rs.mid {A B : List Gq} {q : Gq} (h : Rs (A ++ q :: B)) : (∀ a ∈ A, a.tid < q.tid) ∧ ∀ c ∈ B, q.tid < c.tid := ⟨(pair_mid h).2.1, (pair_mid h).2.2⟩

theorem Ls.num {w : World} {ow : List Nat} {b nm : Nat} {ticks : Int} {Q : List Gq} (h : Ls w ow b nm ticks Q) : ∀ q ∈ Q, inI64 q.tid ∧ 0 ≤ q.n ∧ q.n ≤ 10 ∧ q.puts.length ≤ 10 := by
  obtain ⟨tb, mb, tv, K, rfl, hk⟩ := h
  intro q hq
  obtain ⟨g, hg, rfl⟩ := List.mem_map.1 hq
  exact hk.nums g hg

theorem Ls.few {w : World} {ow : List Nat} {b nm : Nat} {ticks : Int} {Q : List Gq} (h : Ls w ow b nm ticks Q) : Q.length ≤ 901 := by
  obtain ⟨tb, mb, tv, K, rfl, hk⟩ := h
  rw [List.length_map]
  exact hk.few.2

/-- What one puts, as cells wherever the world is. -/
theorem Hole.src {w : World} {ow : List Nat} {b tb mb nm : Nat} {ticks : Int} {tv : Value} {KT : List (Int × Int)} {A B : List Gn} {x n : Int} {P : Pts} {vo : Value} (h : Hole w ow b tb mb nm ticks tv KT A B x n P vo) : ∃ ao c, vo = .slice ao P.length c ∧ Src 2 w ao P.length c (pcells P) := by
  obtain ⟨ao, c, hv⟩ := put_form h.row
  refine ⟨ao, c, hv, ?_⟩
  rcases h.row.2 with ⟨e, h0⟩ | ⟨g, cap, cur, e, -⟩
  · rw [hv] at e
    injection e with e1 e2 e3
    exact .inl ⟨e1, h0, e3, by rw [List.eq_nil_of_length_eq_zero h0]; rfl⟩
  · rw [hv] at e
    injection e with e1 e2 e3
    exact .inr ⟨_, e1, pcells_length P, fun j u hj => h.row.cells (g := g) (by rw [hv, e1]; rfl) j u hj⟩

set_option maxHeartbeats 4000000 in
set_option maxRecDepth 100000 in
/-- All: what all put, in a row of its own. -/
theorem lall_calls {w : World} {ow : List Nat} {b nm : Nat} {ticks : Int} {Q : List Gq} (h : Ls w ow b nm ticks Q) :
    Calls Tryz.prog 25 #[.pointer (some ⟨b, 0, none⟩)] w fun e w' => ∃ v, e = .returned v ∧ w'.ownsRow w.heap.size 28 2 v (Q.flatMap (·.puts)).length (pcells (Q.flatMap (·.puts))) ∧ Turn [] w w' := by
  have CT := Lib.hid (tids_calls h)
  have H := Lib.hid h
  have hfew := h.few
  obtain ⟨n, hn⟩ : ∃ n, n = Q.length := ⟨_, rfl⟩
  have HN := Lib.hid hn
  rw [← hn] at CT hfew
  obtain ⟨PA, hPA⟩ : ∃ P, P = Q.flatMap (·.puts) := ⟨_, rfl⟩
  have HPA := Lib.hid hPA
  rw [← hPA]
  obtain ⟨ma, hma⟩ : ∃ m, m = PA.length := ⟨_, rfl⟩
  have HMA := Lib.hid hma
  rw [← hma]
  clear h hn hPA hma
  go_enter Tryz.func25, Tryz.ntmps25
  go_wp2_with fail
  refine CT.out.mono ?_
  rintro e w1 ⟨g, rfl, hr, t1⟩
  have R := Lib.hid hr
  have T1 := Lib.hid t1
  clear hr t1 CT
  go_wp2_with fail
  go_loopw [3, 9] (fun v vi wx => ∃ (k : Nat), k ≤ n ∧ vi = .int .i64 (k : Int) ∧ wx.ownsRow w.heap.size 28 2 v ((Q.take k).flatMap (·.puts)).length (pcells ((Q.take k).flatMap (·.puts))) ∧ wx.ownsRow w.heap.size 2 1 (.slice (some ⟨g, 0, none⟩) n n) n (Q.map fun q => Value.int .i64 q.tid) ∧ Turn [] w wx) (fun _ vi _ => n - (intOf vi).toNat)
  case atStart => exact ⟨0, by omega, rfl, World.ownsRow_nil _ _ _ _, R.out, T1.out⟩
  case round =>
    obtain ⟨k, hk, rfl, hrow, hfr, ht⟩ := hrel
    have HR := Lib.hid hrow
    have HG := Lib.hid hfr
    have HT := Lib.hid ht
    obtain ⟨av, cv, hav⟩ := put_form hrow
    clear hrow hfr ht
    by_cases hkn : k < n
    · have hkl : k < Q.length := by rw [← HN.out]; exact hkn
      obtain ⟨q, hq⟩ : ∃ q, Q[k]? = some q := ⟨_, List.getElem?_eq_getElem hkl⟩
      have hsp := split_q hq
      have hri := H.out.ris
      rw [hsp] at hri
      have hx := (H.out.num q (List.mem_of_getElem? hq)).1
      obtain ⟨tb, mb, tv, KA, KB, vo, -, -, HO⟩ := (H.out.turn HT.out (by simp)).hole (Q := Q) (A := Q.take k) (B := Q.drop (k + 1)) (.inr ⟨q.heard, hsp⟩) hx hri.mid.1 hri.mid.2
      have C := Lib.hid (part_calls HO)
      obtain ⟨ao, c, hv, hsrc⟩ := HO.src
      have HS := Lib.hid hsrc
      have hpl : q.puts.length ≤ 10 := (H.out.num q (List.mem_of_getElem? hq)).2.2.2
      have hcell : wr.cell? ⟨g, k, none⟩ = some (.int .i64 q.tid) := by
        have := HG.out.cells (g := g) rfl k (.int .i64 q.tid) (by rw [List.getElem?_map, hq]; rfl)
        rwa [Addr.add_lit, Nat.zero_add] at this
      have htk : Q.take (k + 1) = Q.take k ++ [q] := by rw [List.take_add_one, hq]; rfl
      have HX : Hid ((Q.take (k + 1)).flatMap (·.puts) = (Q.take k).flatMap (·.puts) ++ q.puts) := Lib.hid (by rw [htk, List.flatMap_append]; simp)
      have hml : ((Q.take k).flatMap (·.puts)).length ≤ 10 * k := by
        have : ∀ l : List Gq, (∀ q ∈ l, q.puts.length ≤ 10) → (l.flatMap (·.puts)).length ≤ 10 * l.length := by
          intro l
          induction l with
          | nil => intro _; simp
          | cons a l ih =>
            intro hl
            have h1 := ih (fun q hq => hl q (by simp [hq]))
            have h2 := hl a (by simp)
            rw [List.flatMap_cons, List.length_append, List.length_cons]
            omega
        have h3 := this (Q.take k) (fun q hq => (H.out.num q (List.mem_of_mem_take hq)).2.2.2)
        rw [List.length_take] at h3
        omega
      obtain ⟨L, hL⟩ : ∃ L, L = (Q.take k).flatMap (·.puts) := ⟨_, rfl⟩
      rw [← hL] at HR HX hml hav
      obtain ⟨tid, htid⟩ : ∃ t, t = q.tid := ⟨_, rfl⟩
      rw [← htid] at C hcell
      obtain ⟨P, hP⟩ : ∃ P, P = q.puts := ⟨_, rfl⟩
      rw [← hP] at HS HX hpl hv
      rw [hv] at C
      unfold gcell at C
      obtain ⟨m, hm⟩ : ∃ m, m = P.length := ⟨_, rfl⟩
      have HM := Lib.hid hm
      rw [← hm] at HS C hpl
      obtain ⟨ml, hm2⟩ : ∃ m, m = L.length := ⟨_, rfl⟩
      have HML := Lib.hid hm2
      rw [← hm2] at HR hml hav
      subst hav
      have hfd := field_v q.n ao m c
      clear hq hsp hri hx HO hv hsrc htk hL htid hP hm hm2
      have hb : 0 ≤ (k : Int) ∧ (k : Int) < (n : Int) := by omega
      go_wp2_with fail
      refine C.out.mono ?_
      rintro e w3 ⟨rfl, t3⟩
      obtain ⟨i0, hi, hz0, hz1, hz2⟩ := info_parts Tryz.putrow
      have T3 := Lib.hid t3
      have R3 := Lib.hid (ownsRow_turn HR.out t3 (by simp))
      have HSZ := Lib.hid (Nat.le_trans HT.out.size t3.size)
      have G3 := Lib.hid (ownsRow_turn HG.out t3 (by simp))
      clear t3 C
      go_wp2_with (at_builtin; refine append_srcL Tryz.underlying32 hi hz0 hz1 hz2 rfl (by decide) rfl (.tmp 13) (.tmp 17) rfl w.heap.size (.slice av ml cv) ml (pcells L) rfl R3.out HSZ.out ao m c (pcells P) rfl (HS.out.turn T3.out) (pcells_one P) (by omega) (by omega) ?_; intro v4 w4 r4 g4)
      have T4 := Lib.hid ((HT.out.trans T3.out (by simp)).trans (Turn.grown (l := (Value.slice av ml cv).ownBlock.toList) g4 (fun i hi => .inl (by simp [hi]))) (fun i hi => .inr (R3.out.lt _ (Option.mem_toList.1 hi)).1))
      have R4 := Lib.hid r4
      have G4 := Lib.hid (ownsRow_turn G3.out (Turn.grown (l := (Value.slice av ml cv).ownBlock.toList) g4 (fun i hi => .inl (by simp [hi]))) (fun i hi e => by
        obtain ⟨c1, h1⟩ := row_block G3.out hi
        obtain ⟨c2, h2⟩ := row_block R3.out (Option.mem_toList.1 e)
        exact ty_ne h1 h2 (by decide) rfl))
      clear r4 g4
      go_wp2_with fail
      go_roundw
      case rel => exact ⟨k + 1, by omega, by go_num, by rw [HX.out, List.length_append, pcells_append, ← HM.out, ← HML.out]; exact R4.out, G4.out, T4.out⟩
      case measure => simp [intOf]; omega
    · have hkk : k = n := by omega
      have e : Q.take k = Q := List.take_of_length_le (by rw [hkk, HN.out]; exact Nat.le_refl _)
      rw [e, ← HPA.out, ← HMA.out] at HR hav
      subst hkk hav
      have hlt : ¬ ((k : Int) < (k : Int)) := by omega
      clear e
      go_wp2_with fail
      go_ret
      exact ⟨_, rfl, HR.out, HT.out⟩

namespace L

theorem has_nil (x : Int) (w : World) : Calls Tryz.prog 41 #[.pointer none, .int .i64 x] w fun e w' => e = .returned (.bool false) ∧ w' = w := by
  go_enter Tryz.func41, Tryz.ntmps41
  go_wp2_with fail
  refine (L.find_nil x w).mono ?_
  rintro e w1 ⟨rfl, rfl⟩
  go_wp2
  go_ret
  exact ⟨rfl, rfl⟩

theorem gone_nil (x : Int) (w : World) : Calls Tryz.prog 43 #[.pointer none, .int .i64 x] w fun e w' => e = .returned (.bool false) ∧ w' = w := by
  go_enter Tryz.func43, Tryz.ntmps43
  go_wp2_with fail
  refine (L.find_nil x w).mono ?_
  rintro e w1 ⟨rfl, rfl⟩
  go_wp2
  go_ret
  exact ⟨rfl, rfl⟩

theorem tick_nil (w : World) : Calls Tryz.prog 44 #[.pointer none] w fun e w' => e = .returned (.slice none 0 0) ∧ w' = w := by
  go_enter Tryz.func44, Tryz.ntmps44
  go_wp2
  go_ret
  exact ⟨rfl, rfl⟩

theorem all_nil (w : World) : Calls Tryz.prog 47 #[.pointer none] w fun e w' => e = .returned (.slice none 0 0) ∧ w' = w := by
  go_enter Tryz.func47, Tryz.ntmps47
  go_wp2
  go_ret
  exact ⟨rfl, rfl⟩

end L

theorem touch_nil (x : Int) (w : World) : Calls Tryz.prog 17 #[.pointer none, .int .i64 x] w fun e w' => e = .returned (.bool false) ∧ Turn [] w w' := by
  go_enter Tryz.func17, Tryz.ntmps17
  go_wp2_with fail
  refine (heard_nil _).mono ?_
  rintro e w1 ⟨rfl, rfl⟩
  go_wp2_with fail
  refine (L.has_nil x _).mono ?_
  rintro e w2 ⟨rfl, rfl⟩
  go_wp2
  go_ret
  exact ⟨rfl, Turn.refl _ _⟩

theorem drop_nil (x : Int) (w : World) : Calls Tryz.prog 18 #[.pointer none, .int .i64 x] w fun e w' => e = .returned (.bool false) ∧ Turn [] w w' := by
  go_enter Tryz.func18, Tryz.ntmps18
  go_wp2_with fail
  refine (heard_nil _).mono ?_
  rintro e w1 ⟨rfl, rfl⟩
  go_wp2_with fail
  refine (L.gone_nil x _).mono ?_
  rintro e w2 ⟨rfl, rfl⟩
  go_wp2
  go_ret
  exact ⟨rfl, Turn.refl _ _⟩

theorem ltick_nil (w : World) : Calls Tryz.prog 20 #[.pointer none] w fun e w' => e = .returned (.slice none 0 0) ∧ Turn [] w w' := by
  go_enter Tryz.func20, Tryz.ntmps20
  go_wp2_with fail
  refine (heard_nil _).mono ?_
  rintro e w1 ⟨rfl, rfl⟩
  go_wp2_with fail
  refine (L.tick_nil _).mono ?_
  rintro e w2 ⟨rfl, rfl⟩
  go_wp2
  go_ret
  exact ⟨rfl, Turn.refl _ _⟩

theorem tids_nil (w : World) : Calls Tryz.prog 24 #[.pointer none] w fun e w' => e = .returned (.slice none 0 0) ∧ Turn [] w w' := by
  go_enter Tryz.func24, Tryz.ntmps24
  go_wp2_with fail
  refine (heard_nil _).mono ?_
  rintro e w1 ⟨rfl, rfl⟩
  go_wp2_with fail
  refine (L.all_nil _).mono ?_
  rintro e w2 ⟨rfl, rfl⟩
  go_wp2
  go_ret
  exact ⟨rfl, Turn.refl _ _⟩

theorem puts_nil (x : Int) (w : World) : Calls Tryz.prog 23 #[.pointer none, .int .i64 x] w fun e w' => ∃ ao c, e = .returned (.slice ao 0 c) ∧ Turn [] w w' := by
  have C := Lib.hid (part_nil x w)
  unfold kz at C
  have hfd := field_v 0 none 0 0
  go_enter Tryz.func23, Tryz.ntmps23
  go_wp2_with fail
  refine C.out.mono ?_
  rintro e w1 ⟨rfl, t1⟩
  have T := Lib.hid t1
  clear t1 C
  go_wp2_with fail
  refine (clonePut_calls (l := []) rfl (fun _ => ⟨rfl, rfl⟩) (by simp) (by simp) (by omega)).mono ?_
  rintro e w2 ⟨ao, c, rfl, -, t2⟩
  have T2 := Lib.hid (T.out.trans t2 (by simp))
  clear t2
  go_wp2
  go_ret
  exact ⟨_, _, rfl, T2.out⟩

theorem lall_nil (w : World) : Calls Tryz.prog 25 #[.pointer none] w fun e w' => e = .returned (.slice none 0 0) ∧ Turn [] w w' := by
  go_enter Tryz.func25, Tryz.ntmps25
  go_wp2_with fail
  refine (tids_nil _).mono ?_
  rintro e w1 ⟨rfl, t1⟩
  have T := Lib.hid t1
  clear t1
  go_wp2_with fail
  go_loopw [3, 9] (fun v vi wx => v = .slice none 0 0 ∧ vi = .int .i64 0 ∧ wx = w1) (fun _ _ _ => 0)
  case atStart => exact ⟨rfl, rfl, rfl⟩
  case round =>
    obtain ⟨rfl, rfl, rfl⟩ := hrel
    have hlt : ¬ ((0 : Int) < 0) := by omega
    go_wp2_with fail
    go_ret
    exact ⟨rfl, T.out⟩

end Go.Proofs.YtjmainefmiefcaaGreat


/-
  A Locks that is a law's own: what stands below the law's first world stays.
-/
namespace Go.Proofs.YtjmainefmiefcaaGreat
open Go.RowKit

/-- What begun answers. -/
def BegunOk : Prop := ∀ w : World, Calls Tryz.prog 12 #[] w fun e w' => e = .returned (.bool true) ∧ Below w.heap.size w w'

def Lw (w wr : World) (b nm : Nat) (ticks : Int) (Q : List Gq) : Prop := ∃ ow, Ls wr ow b nm ticks Q ∧ (∀ k ∈ ow, w.heap.size ≤ k) ∧ Below w.heap.size w wr

theorem Lw.bel {w wr : World} {b nm : Nat} {ticks : Int} {Q : List Gq} (h : Lw w wr b nm ticks Q) : Below w.heap.size w wr := h.choose_spec.2.2

/-- Nothing but what there is is owned. -/
theorem Ls.tight {w : World} {ow : List Nat} {b nm : Nat} {ticks : Int} {Q : List Gq} (h : Ls w ow b nm ticks Q) : Ls w (ow.filter fun k => decide (k < w.heap.size)) b nm ticks Q := by
  obtain ⟨tb, mb, tv, K, hK, hk⟩ := h
  have f : ∀ {k}, k ∈ ow → k < w.heap.size → k ∈ ow.filter fun k => decide (k < w.heap.size) := fun h1 h2 => List.mem_filter.2 ⟨h1, decide_eq_true h2⟩
  refine ⟨tb, mb, tv, K, hK, hk.head, hk.tim, hk.map, hk.rows, hk.sep, hk.ris, f hk.hb (lt_of_heap hk.head), f hk.htb (lt_of_heap hk.tim.head), f hk.hmb hk.map.lt, fun k h1 => ?_, fun g hg k h1 => ?_, hk.nums, hk.fit, hk.few⟩
  · obtain ⟨cs, hc⟩ := row_block hk.tim.row h1
    exact f (hk.htv k h1) (lt_of_heap hc)
  · obtain ⟨cs, hc⟩ := row_block (hk.rows g hg) h1
    exact f (hk.hrow g hg k h1) (lt_of_heap hc)

theorem Lw.step {w wr w' : World} {ow ow' : List Nat} {b nm : Nat} {ticks : Int} {Q : List Gq} (hl : ∀ k ∈ ow, w.heap.size ≤ k) (hb : Below w.heap.size w wr) (h : Ls w' ow' b nm ticks Q) (s : Stp ow ow' wr w') : Lw w w' b nm ticks Q :=
  ⟨ow', h, fun k hk => by
    rcases s.new k hk with h1 | h1
    · exact hl k h1
    · exact Nat.le_trans hb.size h1, hb.trans (s.turn.below hl hb.size)⟩

theorem Lw.quiet {w wr w' : World} {b nm : Nat} {ticks : Int} {Q : List Gq} (h : Lw w wr b nm ticks Q) (t : Turn [] wr w') : Lw w w' b nm ticks Q := by
  obtain ⟨ow, h1, h2, h3⟩ := h
  exact ⟨ow, h1.turn t (by simp), h2, h3.trans (t.belowAll.mono h3.size)⟩

/-- What is newer than the Locks turns: it stays. -/
theorem Lw.over {w wr w2 w' : World} {b nm : Nat} {ticks : Int} {Q : List Gq} {l : List Nat} (h : Lw w wr b nm ticks Q) (t : Turn [] wr w2) (hl : ∀ k ∈ l, wr.heap.size ≤ k) (t2 : Turn l w2 w') : Lw w w' b nm ticks Q := by
  obtain ⟨ow, h1, h2, h3⟩ := h
  exact ⟨_, (h1.tight.turn t (by simp)).turn t2 (fun k hk hm => by have := hl k hk; have := List.mem_filter.1 hm; simp at this; omega), fun k hk => h2 k (List.mem_filter.1 hk).1, h3.trans ((t.trans t2 (l' := l) (fun i hi => .inr (hl i hi))).belowAll.mono h3.size)⟩

theorem lw_new {w wr : World} (hb : Below w.heap.size w wr) : Calls Tryz.prog 13 #[] wr fun e w' => ∃ b, e = .returned (.pointer (some ⟨b, 0, none⟩)) ∧ Lw w w' b 0 0 [] := by
  refine (lnew_calls wr).mono ?_
  rintro e w' ⟨b, ow, rfl, h, hl, t⟩
  exact ⟨b, rfl, ow, h, fun k hk => Nat.le_trans hb.size (hl k hk), hb.trans (t.belowAll.mono hb.size)⟩

theorem lw_took {w wr : World} {b nm : Nat} {ticks : Int} {Q A B : List Gq} {x n : Int} {P : Pts} (h : Lw w wr b nm ticks Q) (hQ : Qat A B x n P Q) (hx : inI64 x) (hA : ∀ q ∈ A, q.tid < x) (hB : ∀ q ∈ B, x < q.tid) (hn : n ≤ 9) (hp : P.length ≤ 10) (hnm : nm ≤ 99999) :
    Calls Tryz.prog 16 #[.pointer (some ⟨b, 0, none⟩), .int .i64 x] wr fun e w' => e = .returned (.bool true) ∧ Lw w w' b (nm + 1) ticks (A ++ ⟨x, n + 1, P, ticks⟩ :: B) := by
  obtain ⟨ow, h1, h2, h3⟩ := h
  refine (took_on h1 hQ hx hA hB hn hp hnm).mono ?_
  rintro e w' ⟨ow', rfl, hk, st⟩
  exact ⟨rfl, Lw.step h2 h3 hk st⟩

theorem lw_put {w wr : World} {b nm : Nat} {ticks : Int} {Q A B : List Gq} {x n : Int} {P : Pts} (h : Lw w wr b nm ticks Q) (hQ : Qat A B x n P Q) (hx : inI64 x) (hA : ∀ q ∈ A, q.tid < x) (hB : ∀ q ∈ B, x < q.tid) (hn : n ≤ 9) (hp : P.length ≤ 9) (hnm : nm ≤ 99999)
    (u v : ByteArray) (hu : u.size ≤ 9223372036854775807) (hv : v.size ≤ 9223372036854775807) :
    Calls Tryz.prog 15 #[.pointer (some ⟨b, 0, none⟩), .int .i64 x, .agg #[.string u, .string v]] wr fun e w' => e = .returned (.bool true) ∧ Lw w w' b (nm + 1) ticks (A ++ ⟨x, n + 1, P ++ [(u, v)], ticks⟩ :: B) := by
  obtain ⟨ow, h1, h2, h3⟩ := h
  refine (put_on h1 hQ hx hA hB hn hp hnm u v hu hv).mono ?_
  rintro e w' ⟨ow', rfl, hk, st⟩
  exact ⟨rfl, Lw.step h2 h3 hk st⟩

theorem lw_took_full {w wr : World} {b nm : Nat} {ticks : Int} {Q A B : List Gq} {x : Int} {P : Pts} (h : Lw w wr b nm ticks Q) (hQ : Qat A B x 10 P Q) (hx : inI64 x) (hA : ∀ q ∈ A, q.tid < x) (hB : ∀ q ∈ B, x < q.tid) :
    Calls Tryz.prog 16 #[.pointer (some ⟨b, 0, none⟩), .int .i64 x] wr fun e w' => e = .returned (.bool false) ∧ Lw w w' b nm ticks Q := by
  have h0 := h
  obtain ⟨ow, h1, h2, h3⟩ := h
  refine (took_full h1 hQ hx hA hB).mono ?_
  rintro e w' ⟨rfl, t⟩
  exact ⟨rfl, h0.quiet t⟩

theorem lw_put_full {w wr : World} {b nm : Nat} {ticks : Int} {Q A B : List Gq} {x : Int} {P : Pts} (h : Lw w wr b nm ticks Q) (hQ : Qat A B x 10 P Q) (hx : inI64 x) (hA : ∀ q ∈ A, q.tid < x) (hB : ∀ q ∈ B, x < q.tid) (u v : ByteArray) :
    Calls Tryz.prog 15 #[.pointer (some ⟨b, 0, none⟩), .int .i64 x, .agg #[.string u, .string v]] wr fun e w' => e = .returned (.bool false) ∧ Lw w w' b nm ticks Q := by
  have h0 := h
  obtain ⟨ow, h1, h2, h3⟩ := h
  refine (put_full h1 hQ hx hA hB u v).mono ?_
  rintro e w' ⟨rfl, t⟩
  exact ⟨rfl, h0.quiet t⟩

theorem lw_touch {w wr : World} {b nm : Nat} {ticks : Int} {A B : List Gq} {q : Gq} (h : Lw w wr b nm ticks (A ++ q :: B)) (hA : ∀ a ∈ A, a.tid < q.tid) (hB : ∀ c ∈ B, q.tid < c.tid) :
    Calls Tryz.prog 17 #[.pointer (some ⟨b, 0, none⟩), .int .i64 q.tid] wr fun e w' => e = .returned (.bool true) ∧ Lw w w' b nm ticks (A ++ ⟨q.tid, q.n, q.puts, ticks⟩ :: B) := by
  obtain ⟨ow, h1, h2, h3⟩ := h
  refine (touch_is h1 hA hB).mono ?_
  rintro e w' ⟨ow', rfl, hk, st⟩
  exact ⟨rfl, Lw.step h2 h3 hk st⟩

theorem lw_touch_none {w wr : World} {b nm : Nat} {ticks : Int} {A B : List Gq} {x : Int} (h : Lw w wr b nm ticks (A ++ B)) (hA : ∀ q ∈ A, q.tid < x) (hB : ∀ q ∈ B, x < q.tid) :
    Calls Tryz.prog 17 #[.pointer (some ⟨b, 0, none⟩), .int .i64 x] wr fun e w' => e = .returned (.bool false) ∧ Lw w w' b nm ticks (A ++ B) := by
  have h0 := h
  obtain ⟨ow, h1, h2, h3⟩ := h
  refine (touch_none h1 hA hB).mono ?_
  rintro e w' ⟨rfl, t⟩
  exact ⟨rfl, h0.quiet t⟩

theorem lw_drop {w wr : World} {b nm : Nat} {ticks : Int} {A B : List Gq} {q : Gq} (h : Lw w wr b nm ticks (A ++ q :: B)) (hA : ∀ a ∈ A, a.tid < q.tid) (hB : ∀ c ∈ B, q.tid < c.tid) :
    Calls Tryz.prog 18 #[.pointer (some ⟨b, 0, none⟩), .int .i64 q.tid] wr fun e w' => e = .returned (.bool true) ∧ Lw w w' b nm ticks (A ++ B) := by
  obtain ⟨ow, h1, h2, h3⟩ := h
  refine (drop_is h1 hA hB).mono ?_
  rintro e w' ⟨ow', rfl, hk, st⟩
  exact ⟨rfl, Lw.step h2 h3 hk st⟩

theorem lw_drop_none {w wr : World} {b nm : Nat} {ticks : Int} {A B : List Gq} {x : Int} (h : Lw w wr b nm ticks (A ++ B)) (hA : ∀ q ∈ A, q.tid < x) (hB : ∀ q ∈ B, x < q.tid) :
    Calls Tryz.prog 18 #[.pointer (some ⟨b, 0, none⟩), .int .i64 x] wr fun e w' => e = .returned (.bool false) ∧ Lw w w' b nm ticks (A ++ B) := by
  have h0 := h
  obtain ⟨ow, h1, h2, h3⟩ := h
  refine (drop_none h1 hA hB).mono ?_
  rintro e w' ⟨rfl, t⟩
  exact ⟨rfl, h0.quiet t⟩

/-- Tick: its answer, laid out. -/
theorem lw_tick {w wr : World} {b nm : Nat} {ticks : Int} {Q : List Gq} (h : Lw w wr b nm ticks Q) (hti : ticks ≤ 999999) :
    Calls Tryz.prog 20 #[.pointer (some ⟨b, 0, none⟩)] wr fun e w' => ∃ ao c, e = .returned (.slice ao (L.silK 6 (ticks + 1) (Q.map qa)).length c) ∧ w'.ownsRow 0 2 1 (.slice ao (L.silK 6 (ticks + 1) (Q.map qa)).length c) (L.silK 6 (ticks + 1) (Q.map qa)).length (L.silK 6 (ticks + 1) (Q.map qa)) ∧ Lw w w' b nm (ticks + 1) Q := by
  obtain ⟨ow, h1, h2, h3⟩ := h
  refine (ltick_calls h1 hti).mono ?_
  rintro e w' ⟨ow', sv, rfl, hr, -, hk, st⟩
  obtain ⟨ao, c, rfl⟩ := owns_slice hr
  exact ⟨ao, c, rfl, hr, Lw.step h2 h3 hk st⟩

theorem lw_n {w wr : World} {b nm : Nat} {ticks : Int} {Q A B : List Gq} {x n : Int} {P : Pts} (h : Lw w wr b nm ticks Q) (hQ : Qat A B x n P Q) (hx : inI64 x) (hA : ∀ q ∈ A, q.tid < x) (hB : ∀ q ∈ B, x < q.tid) :
    Calls Tryz.prog 21 #[.pointer (some ⟨b, 0, none⟩), .int .i64 x] wr fun e w' => e = .returned (.int .i64 n) ∧ Turn [] wr w' := by
  obtain ⟨ow, h1, h2, h3⟩ := h
  exact h1.n_calls hQ hx hA hB

theorem lw_puts {w wr : World} {b nm : Nat} {ticks : Int} {Q A B : List Gq} {x n : Int} {P : Pts} (h : Lw w wr b nm ticks Q) (hQ : Qat A B x n P Q) (hx : inI64 x) (hA : ∀ q ∈ A, q.tid < x) (hB : ∀ q ∈ B, x < q.tid) :
    Calls Tryz.prog 23 #[.pointer (some ⟨b, 0, none⟩), .int .i64 x] wr fun e w' => ∃ ao c, e = .returned (.slice ao P.length c) ∧ w'.ownsRow wr.heap.size 28 2 (.slice ao P.length c) P.length (pcells P) ∧ Turn [] wr w' := by
  obtain ⟨ow, h1, h2, h3⟩ := h
  exact h1.puts_calls hQ hx hA hB

theorem lw_all {w wr : World} {b nm : Nat} {ticks : Int} {Q : List Gq} (h : Lw w wr b nm ticks Q) :
    Calls Tryz.prog 25 #[.pointer (some ⟨b, 0, none⟩)] wr fun e w' => ∃ ao c, e = .returned (.slice ao (Q.flatMap (·.puts)).length c) ∧ w'.ownsRow wr.heap.size 28 2 (.slice ao (Q.flatMap (·.puts)).length c) (Q.flatMap (·.puts)).length (pcells (Q.flatMap (·.puts))) ∧ Turn [] wr w' := by
  obtain ⟨ow, h1, h2, h3⟩ := h
  refine (lall_calls h1).mono ?_
  rintro e w' ⟨v, rfl, hr, t⟩
  obtain ⟨ao, c, rfl⟩ := put_form hr
  exact ⟨ao, c, rfl, hr, t⟩

theorem lw_tids {w wr : World} {b nm : Nat} {ticks : Int} {Q : List Gq} (h : Lw w wr b nm ticks Q) :
    Calls Tryz.prog 24 #[.pointer (some ⟨b, 0, none⟩)] wr fun e w' => ∃ g, e = .returned (.slice (some ⟨g, 0, none⟩) Q.length Q.length) ∧ w'.ownsRow wr.heap.size 2 1 (.slice (some ⟨g, 0, none⟩) Q.length Q.length) Q.length (Q.map fun q => Value.int .i64 q.tid) ∧ Turn [] wr w' := by
  obtain ⟨ow, h1, h2, h3⟩ := h
  exact tids_calls h1

end Go.Proofs.YtjmainefmiefcaaGreat


/-
  One transaction alone.
-/
namespace Go.Proofs.YtjmainefmiefcaaGreat
open Go.RowKit

theorem one_nil (x : Int) : Qat [] [] x 0 [] [] := .inl ⟨rfl, rfl, rfl, by simp⟩

theorem one_is (x n : Int) (P : Pts) (h : Int) : Qat [] [] x n P [⟨x, n, P, h⟩] := .inr ⟨h, rfl⟩

theorem no_q {x : Int} : (∀ q ∈ ([] : List Gq), q.tid < x) ∧ ∀ q ∈ ([] : List Gq), x < q.tid := by simp

theorem sil_one (t h x n : Int) (P : Pts) : (L.silK 6 t ([(⟨x, n, P, h⟩ : Gq)].map qa)).length = if 6 ≤ t - h then 1 else 0 := by
  unfold L.silK qa
  by_cases hc : 6 ≤ t - h
  · rw [if_pos hc]; simp [hc]
  · rw [if_neg hc]; simp [hc]

end Go.Proofs.YtjmainefmiefcaaGreat
