/-
  The walk of the reference's Fall.
-/
import Derived.Test.YtlcilbbgfilefaaTwo
import Derived.Test.YtlcilbbgfilefaaSliceCut
import Derived.Deep.RegionHeld3
import Derived.Deep.CutRange
namespace Go.Proofs.Ytlcilbbgfilefaa
open Go.RowKit

/-- What stands where a file of the reference's is. -/
theorem RefM.look {w : World} {b room : Nat} {l : List Nat} {M1 M2 : List Fm} {f : Fm} (h : RefM w b room l (M1 ++ f :: M2)) :
    ∃ g cap N ao c, w.cell? ⟨b, 1, none⟩ = some (.slice (some ⟨g, 0, none⟩) N cap) ∧ N = (M1 ++ f :: M2).length ∧ M1.length < N ∧ N ≤ cap ∧ cap ≤ 9223372036854775807 ∧
      w.cell? ⟨g, M1.length * 4, none⟩ = some (.string ⟨f.name.toArray⟩) ∧ w.cell? ⟨g, M1.length * 4 + 1, none⟩ = some (.slice ao f.b.length c) ∧
      w.cell? ⟨g, M1.length * 4 + 2, none⟩ = some (.int .i64 (f.sure : Int)) ∧ w.cell? ⟨g, M1.length * 4 + 3, none⟩ = some (.bool f.named) ∧ Sl w ao c f.b ∧ f.sure ≤ f.b.length := by
  obtain ⟨v, A, x, B, hd, rfl, rfl, rfl, rfl⟩ := h.split
  obtain ⟨ao, cap, hv, hao⟩ := hd.form
  obtain ⟨g, rfl⟩ := hao (by simp)
  subst hv
  have hAl : A.length < (A ++ x :: B).length := by simp
  have hx : (A ++ x :: B)[A.length]'hAl = x := by simp
  obtain ⟨d0, d1, d2, d3⟩ := hd.cells hAl
  rw [hx] at d0 d1 d2 d3
  obtain ⟨-, c1, -, -⟩ := two_cells hd.head
  have hcp : (A ++ x :: B).length ≤ cap ∧ cap ≤ 9223372036854775807 := by
    rcases hd.row.2 with ⟨h0, _⟩ | ⟨g', cap', cur, hv, _, _, h1, h2, _⟩
    · cases h0
    · cases hv
      exact ⟨h1, by unfold maxLen at h2; omega⟩
  rw [List.length_map]
  exact ⟨g, cap, _, _, _, c1, by simp, hAl, hcp.1, hcp.2, d0, d1, d2, d3, hd.sl x (by simp), hd.sure x (by simp)⟩

theorem RefM.len {w : World} {b room : Nat} {l : List Nat} {M : List Fm} (h : RefM w b room l M) : ∃ ao cap, w.cell? ⟨b, 1, none⟩ = some (.slice ao M.length cap) := by
  obtain ⟨v, R, hd, rfl, rfl⟩ := h
  obtain ⟨ao, cap, hv, -⟩ := hd.form
  obtain ⟨-, c1, -, -⟩ := two_cells hd.head
  rw [hv] at c1
  rw [List.length_map]
  exact ⟨ao, cap, c1⟩

/-- One more file behind those that are there. -/
theorem RefIs.pushAny {w w2 : World} {b room : Nat} {v v2 : Value} {R : List Rf} {x : Rf} (hd : RefIs w b room v R) (t : Turn v.ownBlock.toList w w2)
    (ho : w2.ownsRow 0 63 4 v2 (R ++ [x]).length (rowCells (R ++ [x]))) (hf : ∀ k, v2.ownBlock = some k → v.ownBlock = some k ∨ w.heap.size ≤ k)
    (hs : Sl w2 x.ao x.c x.f.b) (hx : ∀ A, x.ao = some A → x.f.b ≠ [] → w.heap.size ≤ A.block ∧ v2.ownBlock ≠ some A.block) (hsure : x.f.sure ≤ x.f.b.length) (htot : tot (R.map Rf.f) + x.f.b.length ≤ 1048576) :
    RefIs (w2.setCell ⟨b, 1, none⟩ v2) b room v2 (R ++ [x]) ∧ Turn (rblk b v R) w (w2.setCell ⟨b, 1, none⟩ v2) ∧ ∀ i ∈ rblk b v2 (R ++ [x]), i ∈ rblk b v R ∨ w.heap.size ≤ i := by
  have hbl : b < w.heap.size := lt_of_heap hd.head
  have ts : Turn [b] w2 (w2.setCell ⟨b, 1, none⟩ v2) := Turn.setCell _ (by simp) _
  have hvb : ∀ k, v2.ownBlock = some k → k ≠ b := by
    intro k hk e
    subst e
    rcases hf _ hk with h1 | h1
    · exact hd.apart h1
    · omega
  have hmem : ∀ y ∈ R ++ [x], y ∈ R ∨ y = x := by
    intro y hy
    simpa using hy
  have hdd : b ∉ v.ownBlock.toList := by
    intro hm
    exact hd.apart (by simpa using hm)
  refine ⟨⟨?_, ownsRow_turn ho ts (fun k hk => by simpa using hvb k hk), ?_, fun e => hvb b e rfl, ?_, ?_, ?_⟩, ?_, ?_⟩
  · rw [block_set (t.heap hd.head hdd)]
    rfl
  · intro y hy
    rcases hmem y hy with h1 | rfl
    · refine ((hd.sl y h1).turn t (fun A' hA' hne hm => ?_)).turn ts (fun A' hA' hne hm => ?_)
      · exact (hd.far y h1 A' hA' hne).2 (by simpa using hm)
      · exact (hd.far y h1 A' hA' hne).1 (by simpa using hm)
    · refine hs.turn ts (fun A' hA' hne hm => ?_)
      have := (hx A' hA' hne).1
      simp at hm
      omega
  · intro y hy
    rcases hmem y hy with h1 | rfl
    · intro A' hA' hne
      refine ⟨(hd.far y h1 A' hA' hne).1, fun e => ?_⟩
      rcases hf _ e with h2 | h2
      · exact (hd.far y h1 A' hA' hne).2 h2
      · have hs := hd.sl y h1
        rw [hA'] at hs
        have := hs.lt hne
        omega
    · intro A' hA' hne
      have := hx A' hA' hne
      exact ⟨by omega, this.2⟩
  · intro y hy
    rcases hmem y hy with h1 | rfl
    · exact hd.sure y h1
    · exact hsure
  · simp [tot] at htot ⊢
    exact htot
  · refine (t.mono (fun i hi => .inl ?_)).trans ts (fun i hi => .inl ?_)
    · simp at hi
      simp [rblk, hi]
    · simp at hi
      simp [rblk, hi]
  · intro i hi
    simp only [rblk, List.mem_cons, List.mem_append, List.mem_flatMap] at hi ⊢
    rcases hi with rfl | hi | ⟨y, hy, hi⟩
    · exact .inl (.inl rfl)
    · rcases hf i (by simpa using hi) with h1 | h1
      · exact .inl (.inr (.inl (by simp [h1])))
      · exact .inr h1
    · rcases hy with hy | hy | hy
      · exact .inl (.inr (.inr ⟨y, hy, hi⟩))
      · subst hy
        unfold Rf.blocks at hi
        split at hi
        · simp at hi
        · rename_i hne
          cases hao : y.ao with
          | none => rw [hao] at hi; simp at hi
          | some A =>
            rw [hao] at hi
            simp at hi
            subst hi
            exact .inr (hx A hao hne).1
      · simp at hy

/-- The same, out of a region's steps. -/
theorem fall_push {x1 w2 w3 : World} {b room : Nat} {v v2 : Value} {R : List Rf} {x : Rf} (hd : RefIs x1 b room v R) (t2 : Turn [] x1 w2) (ha : ∀ A, x.ao = some A → x1.heap.size ≤ A.block ∧ A.block < w2.heap.size) (hs : Sl w2 x.ao x.c x.f.b)
    (t3 : Turn v.ownBlock.toList w2 w3) (ho : w3.ownsRow 0 63 4 v2 (R ++ [x]).length (rowCells (R ++ [x]))) (hf : ∀ k, v2.ownBlock = some k → v.ownBlock = some k ∨ w2.heap.size ≤ k)
    (hsure : x.f.sure ≤ x.f.b.length) (htot : tot (R.map Rf.f) + x.f.b.length ≤ 1048576) :
    RefIs (w3.setCell ⟨b, 1, none⟩ v2) b room v2 (R ++ [x]) ∧ Turn (rblk b v R) x1 (w3.setCell ⟨b, 1, none⟩ v2) ∧ ∀ i ∈ rblk b v2 (R ++ [x]), i ∈ rblk b v R ∨ x1.heap.size ≤ i := by
  have hz := t2.size
  have hvl : ∀ k, v.ownBlock = some k → k < x1.heap.size := fun k hk => hd.lt k (by simp [rblk, hk])
  refine hd.pushAny ((t2.mono (by simp)).trans t3 (fun i hi => .inl hi)) ho (fun k hk => (hf k hk).imp id (fun h => by omega)) (hs.turn t3 (fun A hA _ hm => ?_)) (fun A hA _ => ⟨(ha A hA).1, fun e => ?_⟩) hsure htot
  · have h1 := hvl A.block (by simpa using hm)
    have h2 := (ha A hA).1
    omega
  · have h3 := ha A hA
    rcases hf _ e with h1 | h1
    · have h2 := hvl _ h1
      omega
    · omega

theorem rf_new_cells (w : World) (x : Rf) : ∀ j u, (rowCells [x])[j]? = some u → (w.alloc (.cells #[.string ⟨x.f.name.toArray⟩, .slice x.ao x.f.b.length x.c, .int .i64 (x.f.sure : Int), .bool x.f.named] 63)).cell? ((⟨w.heap.size, 0, none⟩ : Addr).add j) = some u := by
  intro j u hu
  have hb := heap_alloc_new w (.cells #[.string ⟨x.f.name.toArray⟩, .slice x.ao x.f.b.length x.c, .int .i64 (x.f.sure : Int), .bool x.f.named] 63)
  rw [Addr.add_lit, Nat.zero_add, cell_of_row _ _ _ _ _ _ hb, ← hu]
  simp [rowCells, rfCells]

end Go.Proofs.Ytlcilbbgfilefaa
