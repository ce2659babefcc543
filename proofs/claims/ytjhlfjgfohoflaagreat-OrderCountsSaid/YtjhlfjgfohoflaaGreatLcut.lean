/-
  Lcut
-/
import Derived.Test.YtjhlfjgfohoflaaGreatPkBC
namespace Go.Proofs.YtjhlfjgfohoflaaGreat
open Go.RowKit
theorem cut_sizes (l : List (ByteArray × ByteArray)) (i : Nat) (h : i < ((l.take 12).map cutP).length) : (((l.take 12).map cutP).getD i putNone).1.size ≤ 10 ∧ (((l.take 12).map cutP).getD i putNone).2.size ≤ 62 := by
 have hn : ∀ (s : ByteArray) (n : Nat), (cutN s n).size ≤ n := fun s n => by
  show (s.data.toList.take n).toArray.size ≤ n
  simp
  omega
 have e : ((l.take 12).map cutP).getD i putNone = ((l.take 12).map cutP)[i] := by simp only [List.getD, List.getElem?_eq_getElem h, Option.getD_some]
 rw [e, List.getElem_map]
 exact ⟨hn _ _, hn _ _⟩
structure Few (r : RecV) : Prop where
 parts : r.parts.length ≤ 9
 puts : r.puts.length ≤ 12
 size : ∀ i, i < r.puts.length → (r.puts.getD i putNone).1.size ≤ 10 ∧ (r.puts.getD i putNone).2.size ≤ 62
 fit : r.fit
 all : ∀ n ∈ r.parts, -9223372036854775808 ≤ n ∧ n ≤ 9223372036854775807
theorem cut_few (r : RecV) (h : r.fit) (hp : ∀ n ∈ r.parts, -9223372036854775808 ≤ n ∧ n ≤ 9223372036854775807) : Few (recCut r) where
 parts := by show (r.parts.take 9).length ≤ 9; simp; omega
 puts := by show ((r.puts.take 12).map cutP).length ≤ 12; simp; omega
 size := fun i hi => cut_sizes r.puts i hi
 fit := h
 all := fun n hn => hp n (List.mem_of_mem_take hn)
structure RowsOf (w0 w : World) (r : RecV) (ap : Option Addr) (cp : Nat) (aq : Option Addr) (cq : Nat) : Prop where
 p : w.ownsRow 0 3 1 (.slice ap r.parts.length cp) r.parts.length (i64s r.parts)
 q : w.ownsRow 0 45 2 (.slice aq r.puts.length cq) r.puts.length (pcells r.puts)
 lp : ∀ k, (Value.slice ap r.parts.length cp).ownBlock = some k → w0.heap.size ≤ k
 lq : ∀ k, (Value.slice aq r.puts.length cq).ownBlock = some k → w0.heap.size ≤ k
theorem RowsOf.il {w0 w : World} {r : RecV} {ap aq : Option Addr} {cp cq : Nat} (h : RowsOf w0 w r ap cp aq cq) (f : Few r) : Il w ap cp r.parts := own_il h.p f.all
theorem RowsOf.ps {w0 w : World} {r : RecV} {ap aq : Option Addr} {cp cq : Nat} (h : RowsOf w0 w r ap cp aq cq) (f : Few r) : Ps w aq cq r.puts := own_ps h.q (fun i hi => by have := f.size i hi; omega)
theorem RowsOf.turn {w0 w w' : World} {r : RecV} {ap aq : Option Addr} {cp cq : Nat} (h : RowsOf w0 w r ap cp aq cq) {l : List Nat} (t : Turn l w w') (hl : ∀ k ∈ l, k < w0.heap.size) : RowsOf w0 w' r ap cp aq cq :=
 ⟨ownsRow_turn h.p t (fun k hk hm => by have := hl k hm; have := h.lp k hk; omega), ownsRow_turn h.q t (fun k hk hm => by have := hl k hm; have := h.lq k hk; omega), h.lp, h.lq⟩
theorem lawCut_calls (r : RecV) {w : World} {ap aq : Option Addr} {cp cq : Nat} (hp : Il w ap cp r.parts) (hq : Ps w aq cq r.puts) (hf : r.fit) :
 Calls Tryz.prog 24 #[.agg (r.cells ap cp aq cq)] w fun e w' => ∃ ap' cp' aq' cq', e = .returned (.agg ((recCut r).cells ap' cp' aq' cq')) ∧ RowsOf w w' (recCut r) ap' cp' aq' cq' ∧ Few (recCut r) ∧ Turn [] w w' := by
 refine (lawRecord_calls r hp hq).mono ?_
 rintro e w' ⟨ap', cp', aq', cq', rfl, h1, h2, h3, h4, t⟩
 refine ⟨ap', cp', aq', cq', rfl, ⟨h1, h2, h3, h4⟩, cut_few r hf ?_, t⟩
 rcases hp with ⟨_, _, h⟩ | ⟨A, _, _, _, _, h⟩
 · rw [h]; intro n hn; cases hn
 · exact h
end Go.Proofs.YtjhlfjgfohoflaaGreat
