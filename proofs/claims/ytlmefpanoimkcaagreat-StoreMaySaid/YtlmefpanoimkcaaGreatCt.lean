/-
  Ct
-/
import Derived.Test.YtlmefpanoimkcaaGreatLs0
import Derived.Test.YtlmefpanoimkcaaGreatLcut
namespace Go.Proofs.YtlmefpanoimkcaaGreat
open Go.RowKit Go.Proofs.YtlmefpanoimkcaaGreat.V
theorem cutN_size (s : ByteArray) (n : Nat) : (cutN s n).size ≤ n := by
 show (s.data.toList.take n).toArray.size ≤ n
 simp
 omega
theorem StX.deep {w : World} {a : Ads} {s : StV} (h : StX w a s) : s.deep where
 puts := fun x hx => by
  obtain ⟨L, hL, _, hP⟩ := h.waits
  rw [← hL] at hx
  obtain ⟨y, hy, rfl⟩ := List.mem_map.1 hx
  exact (hP y hy).sizes
 open_ := fun x hx => by
  obtain ⟨L, hL, _, hP⟩ := h.open_
  rw [← hL] at hx
  obtain ⟨y, hy, rfl⟩ := List.mem_map.1 hx
  rcases hP y hy with ⟨_, _, h1⟩ | ⟨A, _, _, _, _, h1⟩
  · rw [h1]; intro n hn; cases hn
  · exact h1
 noes := fun x hx => by
  obtain ⟨L, hL, _, hP⟩ := h.noes
  rw [← hL] at hx
  obtain ⟨y, hy, rfl⟩ := List.mem_map.1 hx
  rcases hP y hy with ⟨_, _, h1⟩ | ⟨A, _, _, _, _, h1⟩
  · rw [h1]; intro n hn; cases hn
  · exact h1
theorem cut_fit {s : StV} (h : s.fit) : (cutS s).fit where
 broker := h.broker
 nextId := h.nextId
 nextSeq := h.nextSeq
 tx := h.tx
 ms := fun m hm => by
  obtain ⟨x, hx, rfl⟩ := List.mem_map.1 hm
  have := h.ms x (List.mem_of_mem_take hx)
  exact ⟨this.1, this.2.1, this.2.2.1, this.2.2.2.1, Nat.le_trans (cutN_size _ _) (by omega), Nat.le_trans (cutN_size _ _) (by omega)⟩
 waits := fun x hx => by
  obtain ⟨y, hy, rfl⟩ := List.mem_map.1 hx
  exact h.waits y (List.mem_of_mem_take hy)
 ends := fun x hx => h.ends x (List.mem_of_mem_take hx)
 open_ := fun x hx => by
  obtain ⟨y, hy, rfl⟩ := List.mem_map.1 hx
  exact h.open_ y (List.mem_of_mem_take hy)
 noes := fun x hx => by
  obtain ⟨y, hy, rfl⟩ := List.mem_map.1 hx
  exact h.noes y (List.mem_of_mem_take hy)
theorem cut_deep {s : StV} (h : s.deep) : (cutS s).deep where
 puts := fun x hx i hi => by
  obtain ⟨y, hy, rfl⟩ := List.mem_map.1 hx
  have := cut_sizes y.puts i hi
  exact ⟨Nat.le_trans this.1 (by omega), Nat.le_trans this.2 (by omega)⟩
 open_ := fun x hx n hn => by
  obtain ⟨y, hy, rfl⟩ := List.mem_map.1 hx
  exact h.open_ y (List.mem_of_mem_take hy) n (List.mem_of_mem_take hn)
 noes := fun x hx n hn => by
  obtain ⟨y, hy, rfl⟩ := List.mem_map.1 hx
  exact h.noes y (List.mem_of_mem_take hy) n (List.mem_of_mem_take hn)
theorem Lb.reads {wi w0 w w1 : World} {q : Nat} {s : StV} {a : Ads} {LW : List (Lay BrV)} {LO LN : List (Lay PendV)} (h : Lb wi w0 w q s a LW LO LN) (hd : s.deep) {l : List Nat} (t : Turn l w w1) (hl : ∀ k ∈ l, wi.heap.size ≤ k ∧ k < w0.heap.size) : StIs w1 a s := by
 have kp : ∀ {E : TypeId} {n m : Nat} {v : Value} {xs : List Value}, w.ownsRow w0.heap.size E n v m xs → w1.ownsRow w0.heap.size E n v m xs := fun r => ownsRow_turn r t (fun k hk hm => by
  have h1 := ownsRow_lo r (k := k) (by simpa using hk)
  have h2 := (hl k hm).2
  omega)
 have te : Turn [] wi w1 := (h.eld.trans h.base).trans t (fun k hk => .inr (hl k hk).1)
 refine ⟨Tl.of_own (n := 6) (f := msgC) (fun _ => rfl) (kp h.ms), ⟨LW, h.vw, Tl.of_own (n := 2) (f := brC) (fun _ => rfl) (kp h.ws), fun x hx => ?_⟩, Tl.of_own (n := 2) (f := endC) (fun _ => rfl) (kp h.es), ⟨LO, h.vo, Tl.of_own (n := 2) (f := pendC) (fun _ => rfl) (kp h.os), fun x hx => ?_⟩, ⟨LN, h.vn, Tl.of_own (n := 2) (f := pendC) (fun _ => rfl) (kp h.ns), fun x hx => ?_⟩⟩
 · rcases h.puts x hx with r | r
   · exact r.turn te
   · exact own_ps (ownsRow_base (kp r) (fun _ _ => Nat.zero_le _)) (hd.puts x.v (by rw [← h.vw]; exact List.mem_map_of_mem hx))
 · rcases h.parts x (List.mem_append.2 (.inl hx)) with r | r
   · exact r.turn te
   · exact own_il (ownsRow_base (kp r) (fun _ _ => Nat.zero_le _)) (hd.open_ x.v (by rw [← h.vo]; exact List.mem_map_of_mem hx))
 · rcases h.parts x (List.mem_append.2 (.inr hx)) with r | r
   · exact r.turn te
   · exact own_il (ownsRow_base (kp r) (fun _ _ => Nat.zero_le _)) (hd.noes x.v (by rw [← h.vn]; exact List.mem_map_of_mem hx))
end Go.Proofs.YtlmefpanoimkcaaGreat
