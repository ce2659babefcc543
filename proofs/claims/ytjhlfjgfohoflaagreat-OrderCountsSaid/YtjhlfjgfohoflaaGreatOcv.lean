/-
  OrderCounts' sums as values: the free, the held and the dead of a queue are its messages; what Next gives.
-/
import Derived.Test.YtjhlfjgfohoflaaGreatOcn
import Derived.Test.YtjhlfjgfohoflaaGreatOcp
import Derived.Test.YtjhlfjgfohoflaaGreatPkAS
namespace Go.Proofs.YtjhlfjgfohoflaaGreat
open Go.RowKit Go.Proofs.YtjhlfjgfohoflaaGreat.V
def pQ (q : ByteArray) (x : MsgV) : Bool := decide (x.queue = q)
theorem cnt_sum (q : ByteArray) : ∀ l : List MsgV, cnt (freeB q) l + cnt (pH q) l + cnt (pD q) l = cnt (pQ q) l
 | [] => rfl
 | x :: l => by
  have ih := cnt_sum q l
  unfold cnt at *
  have P7 : freeB q x = (decide (x.queue = q) && (decide (x.by_ = 0) && !deadB x)) := rfl
  have P8 : pH q x = (decide (x.queue = q) && !decide (x.by_ = 0)) := rfl
  have P9 : pD q x = (decide (x.queue = q) && (decide (x.by_ = 0) && deadB x)) := rfl
  have PQ : pQ q x = decide (x.queue = q) := rfl
  simp only [List.filter_cons]
  rw [P7, P8, P9, PQ]
  cases decide (x.queue = q) <;> cases decide (x.by_ = 0) <;> cases deadB x <;> simp <;> omega
theorem best_fold {q : ByteArray} : ∀ {l : List MsgV} {b : MsgV}, (∀ x ∈ l, b.seq < x.seq) → l.foldl (stepM q) (some b) = some b
 | [], _, _ => rfl
 | x :: l, b, h => by
  have h1 := h x (by simp)
  rw [List.foldl_cons]
  have e : stepM q (some b) x = some b := by
   unfold stepM
   split
   · simp only
     rw [if_neg (by omega)]
   · rfl
  rw [e]
  exact best_fold (fun y hy => h y (by simp [hy]))
theorem best_find {q : ByteArray} : ∀ {l : List MsgV}, Rising MsgV.seq l → bestM q l = l.find? (freeB q)
 | [], _ => rfl
 | x :: l, h => by
  obtain ⟨h1, h2⟩ := List.pairwise_cons.1 h
  unfold bestM
  rw [List.foldl_cons, List.find?_cons]
  cases hf : freeB q x with
  | true =>
   have e : stepM q none x = some x := by unfold stepM; rw [if_pos hf]
   rw [e]
   exact best_fold h1
  | false =>
   have e : stepM q none x = none := by unfold stepM; rw [if_neg (by rw [hf]; simp)]
   rw [e]
   exact best_find h2
theorem best_some {q : ByteArray} {l : List MsgV} (h : bestM q l = l.find? (freeB q)) : (bestM q l).isSome = decide (0 < cnt (freeB q) l) := by
 rw [h]
 unfold cnt
 rw [Bool.eq_iff_iff, List.find?_isSome, decide_eq_true_eq, List.length_pos_iff_exists_mem]
 simp only [List.mem_filter]
theorem best_is {q : ByteArray} {l : List MsgV} {m : MsgV} (h : bestM q l = l.find? (freeB q)) (hm : bestM q l = some m) : m.queue = q ∧ m.by_ = 0 ∧ deadB m = false := by
 rw [h] at hm
 have := List.find?_some hm
 unfold freeB at this
 simpa using this
theorem ofQ_cnt (l : List MsgV) (x : List UInt8) : ofQ l x = cnt (pQ ⟨x.toArray⟩) l := by
 unfold ofQ cnt
 congr 1
 refine List.filter_congr fun m _ => ?_
 unfold pQ
 obtain ⟨i, ⟨⟨q⟩⟩, b, s, c, y⟩ := m
 simp
theorem sum_next {f : List UInt8 → Nat} {Q : List (List UInt8)} {k : Nat} {x : List UInt8} (h : Q[k]? = some x) : ((Q.take (k + 1)).map f).sum = ((Q.take k).map f).sum + f x := by
 rw [List.take_add_one, h, List.map_append, List.sum_append]
 simp
theorem sum_le (f : List UInt8 → Nat) (Q : List (List UInt8)) (k : Nat) : ((Q.take k).map f).sum ≤ (Q.map f).sum := by
 conv => rhs; rw [← List.take_append_drop k Q]
 rw [List.map_append, List.sum_append]
 omega
theorem pend_room {s : StV} (hm : MayP s) : s.ms.length + pending s + 0 ≤ 1000000 := by
 have h1 : ∀ (l : List BrV), (∀ x ∈ l, putsB x.puts = true) → (l.map fun x => x.puts.length).sum ≤ l.length * 10 := by
  intro l
  induction l with
  | nil => intro _; simp
  | cons x l ih =>
   intro h
   have h2 := ih (fun y hy => h y (by simp [hy]))
   have h3 := h x (by simp)
   unfold putsB at h3
   simp at h3
   simp only [List.map_cons, List.sum_cons, List.length_cons]
   have := h3.2
   omega
 have := h1 s.waits (fun x hx => (hm.waits x hx).2.2)
 have h4 := hm.lwaits
 have h5 := hm.lms
 unfold pending
 omega
theorem queues_few {s : StV} (hm : MayP s) : (queuesQ s []).length ≤ 1000000 := by
 have hp := pend_room hm
 unfold queuesQ
 refine Nat.le_trans (compact_len _) ?_
 rw [List.length_mergeSort, bys_length]
 unfold namesL
 have := pend_sum s.waits s.waits.length
 rw [List.take_length] at this
 have e : pending s = (s.waits.map fun x : BrV => x.puts.length).sum := rfl
 simp only [List.length_append, List.length_map, List.length_nil]
 omega
end Go.Proofs.YtjhlfjgfohoflaaGreat
