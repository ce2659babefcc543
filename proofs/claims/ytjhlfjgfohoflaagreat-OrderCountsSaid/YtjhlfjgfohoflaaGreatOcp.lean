/-
  Of a queue's messages: those of all queues are all there are.
-/
import Derived.Test.YtjhlfjgfohoflaaGreatPkAW
namespace Go.Proofs.YtjhlfjgfohoflaaGreat
theorem keeps_iff {zs : List (List UInt8)} {j : Nat} (hj : j < zs.length) : Lib.keeps zs.toArray j = true ↔ j = 0 ∨ zs[j] ≠ zs[j - 1]'(by omega) := by
 unfold Lib.keeps
 rw [decide_eq_true_eq]
 rw [getElem!_pos zs.toArray j (by simpa using hj), getElem!_pos zs.toArray (j - 1) (by simp; omega)]
 simp
theorem compact_nodup {zs : List (List UInt8)} (h : zs.Pairwise fun x y => x ≤ y) : (Lib.compact zs).Nodup := by
 unfold Lib.compact Lib.compactUpTo
 have hp := List.pairwise_iff_getElem.1 h
 have h0 : (List.range zs.length).Pairwise (· < ·) := List.pairwise_lt_range
 have h1 : ((List.range zs.length).filter (Lib.keeps zs.toArray)).Pairwise (· < ·) := h0.sublist List.filter_sublist
 refine List.pairwise_map.2 ?_
 refine List.Pairwise.imp_of_mem ?_ h1
 intro i j hi hj hij e
 obtain ⟨hi1, hi2⟩ := List.mem_filter.1 hi
 obtain ⟨hj1, hj2⟩ := List.mem_filter.1 hj
 have hi1 := List.mem_range.1 hi1
 have hj1 := List.mem_range.1 hj1
 rw [getElem!_pos zs.toArray i (by simpa using hi1), getElem!_pos zs.toArray j (by simpa using hj1)] at e
 have e : zs[i] = zs[j] := by simpa using e
 rcases (keeps_iff hj1).1 hj2 with h2 | h2
 · omega
 · refine h2 ?_
   have a1 : zs[j - 1]'(by omega) ≤ zs[j] := hp (j - 1) j (by omega) hj1 (by omega)
   have a2 : zs[i] ≤ zs[j - 1]'(by omega) := by
    by_cases e1 : i = j - 1
    · subst e1; exact List.le_refl _
    · exact hp i (j - 1) hi1 (by omega) (by omega)
   rw [e] at a2
   exact List.le_antisymm a2 a1
theorem mem_compact_of {zs : List (List UInt8)} : ∀ (i : Nat) (hi : i < zs.length), zs[i] ∈ Lib.compact zs := by
 intro i
 induction i with
 | zero =>
  intro hi
  unfold Lib.compact Lib.compactUpTo
  refine List.mem_map.2 ⟨0, List.mem_filter.2 ⟨List.mem_range.2 hi, (keeps_iff hi).2 (.inl rfl)⟩, ?_⟩
  rw [getElem!_pos zs.toArray 0 (by simpa using hi)]
  simp
 | succ i ih =>
  intro hi
  by_cases e : zs[i + 1] = zs[i]
  · rw [e]; exact ih (by omega)
  · unfold Lib.compact Lib.compactUpTo
    refine List.mem_map.2 ⟨i + 1, List.mem_filter.2 ⟨List.mem_range.2 hi, (keeps_iff hi).2 (.inr e)⟩, ?_⟩
    rw [getElem!_pos zs.toArray (i + 1) (by simpa using hi)]
    simp
def ofQ (M : List MsgV) (q : List UInt8) : Nat := (M.filter fun m => decide (m.queue.data.toList = q)).length
theorem sum_add {α : Type} (f g : α → Nat) (l : List α) : (l.map fun x => f x + g x).sum = (l.map f).sum + (l.map g).sum := by
 induction l with
 | nil => rfl
 | cons x l ih => simp only [List.map_cons, List.sum_cons, ih]; omega
theorem sum_none (q : List UInt8) : ∀ (Q : List (List UInt8)), q ∉ Q → (Q.map fun x => if q = x then 1 else 0).sum = 0
 | [], _ => rfl
 | x :: Q, h => by
  simp only [List.mem_cons, not_or] at h
  rw [List.map_cons, List.sum_cons, if_neg h.1, sum_none q Q h.2]
theorem sum_one (q : List UInt8) : ∀ (Q : List (List UInt8)), Q.Nodup → q ∈ Q → (Q.map fun x => if q = x then 1 else 0).sum = 1
 | [], _, h => by simp at h
 | x :: Q, hn, h => by
  obtain ⟨h1, h2⟩ := List.nodup_cons.1 hn
  rw [List.map_cons, List.sum_cons]
  by_cases e : q = x
  · subst e
    rw [if_pos rfl, sum_none q Q h1]
  · rw [if_neg e, sum_one q Q h2 (by rcases List.mem_cons.1 h with h | h; · exact absurd h e
                                     · exact h)]
theorem sum_ofQ {Q : List (List UInt8)} (hn : Q.Nodup) : ∀ (M : List MsgV), (∀ m ∈ M, m.queue.data.toList ∈ Q) → (Q.map (ofQ M)).sum = M.length
 | [], h => by
  have : (Q.map (ofQ [])) = Q.map fun _ => 0 := rfl
  rw [this]
  clear this hn h
  induction Q with
  | nil => rfl
  | cons x Q ih => rw [List.map_cons, List.sum_cons, ih]; rfl
 | m :: M, h => by
  have e : Q.map (ofQ (m :: M)) = Q.map fun x => (if m.queue.data.toList = x then 1 else 0) + ofQ M x := by
   refine List.map_congr_left fun x _ => ?_
   unfold ofQ
   rw [List.filter_cons]
   by_cases e : m.queue.data.toList = x
   · rw [if_pos (by simpa using e), if_pos e, List.length_cons]; omega
   · rw [if_neg (by simpa using e), if_neg e]; omega
  rw [e, sum_add, sum_one _ _ hn (h m (by simp)), sum_ofQ hn M (fun x hx => h x (by simp [hx])), List.length_cons]
  omega
theorem queues_nodup (s : StV) (M : List (ByteArray × ByteArray)) : (queuesQ s M).Nodup := by
 unfold queuesQ
 refine compact_nodup ?_
 have := List.pairwise_mergeSort (le := fun x y : List UInt8 => decide (x ≤ y)) (fun a b c => by simpa using List.le_trans) (fun a b => by simpa using List.le_total a b) (bys (namesL s M))
 simpa using this
theorem queues_mem {s : StV} {M : List (ByteArray × ByteArray)} {m : MsgV} (hm : m ∈ s.ms) : m.queue.data.toList ∈ queuesQ s M := by
 unfold queuesQ
 have : m.queue.data.toList ∈ (bys (namesL s M)).mergeSort fun x y => decide (x ≤ y) := by
  rw [List.mem_mergeSort]
  unfold bys namesL
  exact List.mem_map_of_mem (List.mem_append.2 (.inl (List.mem_append.2 (.inl (List.mem_map_of_mem hm)))))
 obtain ⟨i, hi, e⟩ := List.getElem_of_mem this
 rw [← e]
 exact mem_compact_of i hi
theorem queues_sum (s : StV) (M : List (ByteArray × ByteArray)) : ((queuesQ s M).map (ofQ s.ms)).sum = s.ms.length := sum_ofQ (queues_nodup s M) s.ms fun _ hm => queues_mem hm
end Go.Proofs.YtjhlfjgfohoflaaGreat
